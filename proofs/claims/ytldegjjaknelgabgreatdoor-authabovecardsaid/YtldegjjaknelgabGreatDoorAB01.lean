/-
  Servers' names, local names and types, as the document answers: by contracts.
-/
import Derived.Test.YtldegjjaknelgabGreatDoorAN30
import Derived.WalkKit
import Derived.WalkSpells
import Derived.WalkLawsBesides
import Derived.Laws.BytesArg
import Derived.Lib.Strings
import Derived.Lib.RuneBytes
import Derived.Lib.Bytealg
import Derived.Laws.RangeAny
import Derived.Lib.ItoaNum
import Derived.Orders
import Derived.Tactics2
import Derived.Laws.BitsLemmas
import Derived.Test.YtldegjjaknelgabGreatDoorRows
import Derived.Lib.Walk
import Derived.BigQuiet
import Derived.BigRegion
import Derived.RegionTactic
import Derived.Laws.CopyOwn
import Derived.Laws.AppendOwnNone
import Derived.Lib.ValidU
set_option maxRecDepth 100000
set_option maxHeartbeats 64000000
namespace Go.Proofs.YtldegjjaknelgabGreatDoor.Id
open Go.RowKit
theorem refType_any (s : ByteArray) (w : World) (hs : s.size ≤ 140737488351232) :
    Calls Tryz.prog 69 #[.string s] w fun e w' => e = .returned (.bool (typ s)) ∧ w = w':=by
 unfold typ
 by_cases he : s.size = 0
 · have he' : (s.size : Int) = 0:=by omega
   go_enter Tryz.func69,Tryz.ntmps69
   go_wp2
   go_ret
   exact ⟨ret_bool (okText_none _ _ _ he).symm,rfl⟩
 by_cases hm : 64 < (s.size : Int)
 · go_enter Tryz.func69,Tryz.ntmps69
   go_wp2
   go_ret
   exact ⟨ret_bool (okText_long _ _ _ hm).symm,rfl⟩
 go_enter Tryz.func69,Tryz.ntmps69
 go_wp2
 go_loop [3] (fun i => ∃ k : Nat,k ≤ s.size ∧ i = .int .i64 k ∧ ∀ j,j < k → kTyp ((ints s).getD j 0) = true) (fun i => s.size - (intOf i).toNat)
 case atStart => exact ⟨0,Nat.zero_le _,rfl,fun j hj => by omega⟩
 case round =>
  obtain ⟨k,hk,rfl,hall⟩:=hrel
  have HA : Hid (∀ j,j < k → kTyp ((ints s).getD j 0) = true):=hall
  clear hall
  by_cases hlt : k < s.size
  · have HG : Hid ((ints s).getD k 0 = (s[k].toNat : Int)):=ints_getD s k hlt
    have hb1 : (s[k].toNat : Int) ≤ 255:=by have:=s[k].toNat_lt;omega
    by_cases h0 : small (s[k].toNat : Int) = true
    · have HB : Hid (kTyp ((ints s).getD k 0) = true):=by rw [HG.out];unfold kTyp;simp [h0];exact trivial
      go_wp2_with (go_at_call 98;refine (small_any _ _).mono ?_;rintro e w' ⟨rfl,rfl⟩)
      go_round
      case rel => exact ⟨k + 1, by omega, by go_num, fun j hj => by
                            by_cases e : j = k
                            · rw [e];exact HB.out
                            · exact HA.out j (by omega)⟩
      case measure => simp [intOf];omega
    have h0' : small (s[k].toNat : Int) = false:=by simpa using h0
    clear h0
    by_cases h95 : (s[k].toNat : Int) = 95
    · have HB : Hid (kTyp ((ints s).getD k 0) = true):=by rw [HG.out];unfold kTyp;simp [h95];exact trivial
      go_wp2_with (go_at_call 98;refine (small_any _ _).mono ?_;rintro e w' ⟨rfl,rfl⟩)
      go_round
      case rel => exact ⟨k + 1, by omega, by go_num, fun j hj => by
                            by_cases e : j = k
                            · rw [e];exact HB.out
                            · exact HA.out j (by omega)⟩
      case measure => simp [intOf];omega
    have HB : Hid (kTyp ((ints s).getD k 0) = false):=by rw [HG.out];unfold kTyp;simp [h0',h95];exact trivial
    go_wp2_with (go_at_call 98;refine (small_any _ _).mono ?_;rintro e w' ⟨rfl,rfl⟩)
    go_ret
    exact ⟨ret_bool (okText_bad _ _ _ k hlt HB.out).symm,rfl⟩
  · obtain rfl : k = s.size:=by omega
    go_wp2
    go_ret
    exact ⟨ret_bool (okText_all _ _ _ (by omega) (by omega) HA.out).symm,rfl⟩
end Go.Proofs.YtldegjjaknelgabGreatDoor.Id
