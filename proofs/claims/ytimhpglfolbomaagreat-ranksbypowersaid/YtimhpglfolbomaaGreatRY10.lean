/-
  awake, by a contract.
  How many of so many values are left, by a contract: what is small is nowhere too long.
  Order, by a contract.
  Levels as plain data: rows of names, what changes from one to the next, who may change it.
  Levels as they lie in memory; who has which level: by contracts.
  Blocks of cells that are stored into, read, and rows of names in a block.
  Values in order, and what stands under a key of them.
  A key found in a row that rises: by contracts.
  What the reader of a content tells: by contracts.
  Levels and numbers of a content: by contracts.
  User, Type, Start, the seven numbers as a row, and what is above a level: by contracts.
  A map of names to levels.
  A row of names as a map: by a contract.
  Two rows of names joined: by contracts.
  The changes from a row of names to the next, gone through by a function: by a contract.
-/
import Derived.Test.YtimhpglfolbomaaGreatRY09
import Derived.Lib.SlBytesConst
import Derived.Deep.Cut
import Derived.RangeFuncNested
import Derived.Lib.AppendZeros
import Derived.RangeFuncBound
import Derived.RangeFuncCalls
import Derived.RangeFuncLeaves
import Derived.Shelf.Abstract
import Derived.Shelf.RegionOpen
import Derived.OwnWalkIn
import Derived.TacticsInMore
import Derived.LoopNIn
import Derived.LoopIn
import Derived.Laws.StructEq
import Derived.Deep.CutRange
import Derived.Deep.CutBlock
set_option maxRecDepth 100000
set_option maxHeartbeats 16000000
namespace Go.Proofs.YtimhpglfolbomaaGreat
open Go.RowKit
theorem below_cat {B : Nat} {a b c : World} (h : Below B a b) (hB : B ≤ b.heap.size) (g : Below b.heap.size b c) : Below B a c := h.trans ⟨g.os, g.tape, g.output, g.size, fun k hk => g.block k (by omega)⟩
theorem key_getD {ks : List ByteArray} {m : Nat} (hm : m < ks.length) : ks.getD m nix = ks[m] := by
 rw [List.getD_eq_getElem?_getD, List.getElem?_eq_getElem hm]; rfl
theorem sz_less : ∀ (d e : Nat) (j : J), d ≤ e → szJ e j = true → szJ d j = true
 | 0, _, _, _, _ => by unfold szJ; rfl
 | d + 1, 0, _, h, _ => by omega
 | d + 1, e + 1, .mk k i t ks l, h, hs => by
  unfold szJ at hs ⊢
  simp only [Bool.and_eq_true] at hs ⊢
  refine ⟨hs.1, hs.2.1, hs.2.2.1, hs.2.2.2.1, ?_⟩
  rw [List.all_eq_true]
  intro x hx
  exact sz_less d e x (by omega) (List.all_eq_true.1 hs.2.2.2.2 x hx)
def ordT (j : J) : J := if goodJ 12 j = true then ord j else J.zero
theorem two_new {w : World} (o1 o2 : Obj) : ((w.alloc o1).alloc o2).heap[w.heap.size + 1]? = some o2 := by
 have := heap_alloc_new (w.alloc o1) o2
 simpa using this
theorem below_then2 {w w2 w3 : World} (h : Below w.heap.size w w2) (hk : Keep (One (w.heap.size + 1)) w2 w3) : Below w.heap.size w w3 :=
 h.trans (hk.below h.size fun k hk' e => by unfold One at e; omega)
theorem order_any {w : World} {O : Nat → Prop} {j : J} {k i : Int} {t : ByteArray} {pk pl : Option Addr} {nk ck nl cl : Nat} (hO : ∀ x, O x → x < w.heap.size) (hsz : szJ 12 j = true)
    (hj : isJ O w j [.int .i64 k, .int .i64 i, .string t, .slice pk nk ck, .slice pl nl cl]) :
    Calls Tryz.prog 90 #[.agg #[.int .i64 k, .int .i64 i, .string t, .slice pk nk ck, .slice pl nl cl]] w fun x w' => (∃ kr ir tr pr nr cr qr mr dr, x = .returned (.agg #[.int .i64 kr, .int .i64 ir, .string tr, .slice pr nr cr, .slice qr mr dr]) ∧ isJ (fun b => b < w'.heap.size) w' (ordT j) [.int .i64 kr, .int .i64 ir, .string tr, .slice pr nr cr, .slice qr mr dr]) ∧ Below w.heap.size w w' := by
 have hbB : Below w.heap.size w ((w.alloc (.cells #[.int .i64 k, .int .i64 i, .string t, .slice pk nk ck, .slice pl nl cl] 36)).alloc (.cells #[.int .i64 0, .int .i64 0, .string ⟨#[]⟩, .slice none 0 0, .slice none 0 0] 36)) := ((Below.refl _ _).alloc (Nat.le_refl _) _).alloc (by simp) _
 obtain ⟨wB, hwB⟩ : ∃ wB, wB = ((w.alloc (.cells #[.int .i64 k, .int .i64 i, .string t, .slice pk nk ck, .slice pl nl cl] 36)).alloc (.cells #[.int .i64 0, .int .i64 0, .string ⟨#[]⟩, .slice none 0 0, .slice none 0 0] 36)) := ⟨_, rfl⟩
 have hA : wB.heap[w.heap.size]? = some (.cells #[.int .i64 k, .int .i64 i, .string t, .slice pk nk ck, .slice pl nl cl] 36 (0, 0)) := by
  rw [hwB, Below.heap_alloc _ _ _ (by simp)]
  exact heap_alloc_new _ _
 have hR : wB.heap[w.heap.size + 1]? = some (.cells #[.int .i64 0, .int .i64 0, .string ⟨#[]⟩, .slice none 0 0, .slice none 0 0] 36 (0, 0)) := by rw [hwB]; exact two_new _ _
 rw [← hwB] at hbB
 have hOB : ∀ x, O x → x < wB.heap.size := fun x hx => Nat.lt_of_lt_of_le (hO x hx) hbB.size
 have hjB := hj.carry (O' := O) (w' := wB) fun x hx => ⟨hx, hbB.block x (hO x hx)⟩
 have hG := good_any hOB hsz hjB
 have hsA : w.heap.size < wB.heap.size := (Array.getElem?_eq_some_iff.1 hA).1
 have hsR : w.heap.size + 1 < wB.heap.size := (Array.getElem?_eq_some_iff.1 hR).1
 have c0 := five_c0 hA
 cases hg : goodJ 12 j with
 | false =>
  have HZ : Hid (ordT j = J.zero) := by show _ = _; unfold ordT; rw [hg]; rfl
  rw [hg] at hG
  rw [hwB] at hG
  clear hj hjB c0
  go_enter Tryz.func90, Tryz.ntmps90
  go_wp2_with (go_at_call 120; refine hG.mono ?_; rintro x w2 ⟨rfl, hb2⟩
               rw [← hwB] at hb2
               have hres := (hb2.block _ hsR).trans hR
               have i0 := five_c0 hres; have i1 := five_c1 hres; have i2 := five_c2 hres; have i3 := five_c3 hres; have i4 := five_c4 hres
               have z0 := five_fz hres 0; have z1 := five_fz hres 1; have z2 := five_fz hres 2; have z3 := five_fz hres 3; have z4 := five_fz hres 4)
  have h5 := set5_heap hres (.int .i64 0) (.int .i64 0) (.string ⟨#[]⟩) (.slice none 0 0) (.slice none 0 0)
  have HK5 : Keep (One (w.heap.size + 1)) w2 _ := set5_keep w2 (w.heap.size + 1) (.int .i64 0) (.int .i64 0) (.string ⟨#[]⟩) (.slice none 0 0) (.slice none 0 0)
  unfold set5 at h5 HK5
  have k0 := five_c0 h5; have k1 := five_c1 h5; have k2 := five_c2 h5; have k3 := five_c3 h5; have k4 := five_c4 h5
  refine bodyPost_ret (v := .agg #[.int .i64 0, .int .i64 0, .string ⟨#[]⟩, .slice none 0 0, .slice none 0 0]) (by simp [results, Tryz.results90, go_sem, k0, k1, k2, k3, k4]) rfl ?_
  refine ⟨⟨_, _, _, _, _, _, _, _, _, rfl, ?_⟩, below_then2 (below_in hbB hb2) HK5⟩
  rw [HZ.out]
  exact isJ_zero _ _
 | true =>
  have HZ : Hid (ordT j = ord j) := by show _ = _; unfold ordT; rw [hg]; rfl
  have HGG : Hid (goodJ 12 j = true) := hg
  have HJ : Hid (isJ O wB j [.int .i64 k, .int .i64 i, .string t, .slice pk nk ck, .slice pl nl cl]) := hjB
  rw [hg] at hG
  rw [hwB] at hG
  clear hj hjB hg c0
  go_enter Tryz.func90, Tryz.ntmps90
  go_wp2_with (first
   | (go_at_call 120; refine hG.mono ?_; rintro x w2 ⟨rfl, hb2⟩
      rw [← hwB] at hb2
      have hA2 := (hb2.block _ hsA).trans hA
      have c0 := five_c0 hA2; have c1 := five_c1 hA2; have c2 := five_c2 hA2; have c3 := five_c3 hA2; have c4 := five_c4 hA2
      have hArr := arrs 12 w2 O j k i t pk pl nk ck nl cl (fun x hx => Nat.lt_of_lt_of_le (hOB x hx) hb2.size) HGG.out hsz (HJ.out.carry fun x hx => ⟨hx, hb2.block x (hOB x hx)⟩))
   | (go_at_call 121; refine hArr.mono ?_; rintro x w4 ⟨kr, ir, tr, pr, nr, cr, qr, mr, dr, rfl, hjr, hb4⟩
      have hB4 := below_in hb2 hb4
      have hres := (hB4.block _ hsR).trans hR
      have i0 := five_c0 hres; have i1 := five_c1 hres; have i2 := five_c2 hres; have i3 := five_c3 hres; have i4 := five_c4 hres
      have z0 := five_fz hres 0; have z1 := five_fz hres 1; have z2 := five_fz hres 2; have z3 := five_fz hres 3; have z4 := five_fz hres 4))
  have h5 := set5_heap hres (.int .i64 kr) (.int .i64 ir) (.string tr) (.slice pr nr cr) (.slice qr mr dr)
  have HK5 : Keep (One (w.heap.size + 1)) w4 _ := set5_keep w4 (w.heap.size + 1) (.int .i64 kr) (.int .i64 ir) (.string tr) (.slice pr nr cr) (.slice qr mr dr)
  unfold set5 at h5 HK5
  have k0 := five_c0 h5; have k1 := five_c1 h5; have k2 := five_c2 h5; have k3 := five_c3 h5; have k4 := five_c4 h5
  refine bodyPost_ret (v := .agg #[.int .i64 kr, .int .i64 ir, .string tr, .slice pr nr cr, .slice qr mr dr]) (by simp [results, Tryz.results90, go_sem, k0, k1, k2, k3, k4]) rfl ?_
  refine ⟨⟨_, _, _, _, _, _, _, _, _, rfl, ?_⟩, below_then2 (below_in hbB hB4) HK5⟩
  rw [HZ.out]
  refine hjr.carry fun x hx => ?_
  have hlt : x < w4.heap.size ∧ x ≠ w.heap.size + 1 := by
   have s2 := hb2.size
   have s4 := hb4.size
   rcases hx with hx | hx
   · have := hO x hx
     exact ⟨by have := hbB.size; omega, by omega⟩
   · have := hx.1
     exact ⟨hx.2, by omega⟩
  exact ⟨Nat.lt_of_lt_of_le hlt.1 HK5.size, HK5.block x hlt.1 (by unfold One; exact hlt.2)⟩
abbrev Nms := List (ByteArray × Int)
theorem toListP_inj {a b : ByteArray} (h : a.toList = b.toList) : a = b := by
 rw [Lib.toList_data, Lib.toList_data] at h
 cases a; cases b
 exact congrArg ByteArray.mk (Array.toList_inj.1 h)
theorem bytes_eq {a b : ByteArray} : (a.toList == b.toList) = true ↔ a = b := by
 constructor
 · intro h
   exact toListP_inj (by simpa using h)
 · rintro rfl; simp
def fnd : Nms → ByteArray → Option Int
 | [], _ => none
 | p :: r, s => if p.1.toList == s.toList then some p.2 else fnd r s
theorem fnd_append (a b : Nms) (s : ByteArray) : fnd (a ++ b) s = match fnd a s with | some x => some x | none => fnd b s := by
 induction a with
 | nil => rfl
 | cons p r ih =>
  simp only [List.cons_append, fnd]
  split
  · rfl
  · exact ih
theorem takeP_one {α : Type} {l : List α} {k : Nat} {z : α} (h : k < l.length) : l.take (k + 1) = l.take k ++ [l.getD k z] := by
 rw [List.take_add_one, List.getElem?_eq_getElem h, List.getD_eq_getElem?_getD, List.getElem?_eq_getElem h]; rfl
theorem takeP_all {α : Type} {l : List α} {k : Nat} {z : α} (h : k < l.length) : l = l.take k ++ (l.getD k z :: l.drop (k + 1)) := by
 rw [List.getD_eq_getElem?_getD, List.getElem?_eq_getElem h, Option.getD_some, ← List.drop_eq_getElem_cons h, List.take_append_drop]
abbrev zN : ByteArray × Int := (⟨#[]⟩, 0)
theorem fnd_miss {l : Nms} {s : ByteArray} {k : Nat} (h : fnd (l.take k) s = none) (hk : k < l.length) (he : ((l.getD k zN).1.toList == s.toList) = false) : fnd (l.take (k + 1)) s = none := by
 rw [takeP_one (z := zN) hk, fnd_append, h]
 simp only [fnd, he]
 rfl
theorem fnd_hit {l : Nms} {s : ByteArray} {k : Nat} (h : fnd (l.take k) s = none) (hk : k < l.length) (he : ((l.getD k zN).1.toList == s.toList) = true) : fnd l s = some (l.getD k zN).2 := by
 conv => lhs; rw [takeP_all (z := zN) hk, fnd_append, h]
 simp only [fnd, he, if_pos]
structure Lv where
 ban : Int
 kick : Int
 invite : Int
 redact : Int
 state : Int
 events : Int
 users : Int
 byUser : Nms
 byType : Nms
def usr (l : Lv) (u : ByteArray) : Int := (fnd l.byUser u).getD l.users
abbrev kBan : ByteArray := ⟨#[98, 97, 110]⟩
abbrev kKick : ByteArray := ⟨#[107, 105, 99, 107]⟩
abbrev kInvite : ByteArray := ⟨#[105, 110, 118, 105, 116, 101]⟩
abbrev kRedact : ByteArray := ⟨#[114, 101, 100, 97, 99, 116]⟩
abbrev kState : ByteArray := ⟨#[115, 116, 97, 116, 101, 95, 100, 101, 102, 97, 117, 108, 116]⟩
abbrev kEvents : ByteArray := ⟨#[101, 118, 101, 110, 116, 115, 95, 100, 101, 102, 97, 117, 108, 116]⟩
abbrev kUsers : ByteArray := ⟨#[117, 115, 101, 114, 115, 95, 100, 101, 102, 97, 117, 108, 116]⟩
abbrev kByUser : ByteArray := ⟨#[117, 115, 101, 114, 115]⟩
abbrev kByType : ByteArray := ⟨#[101, 118, 101, 110, 116, 115]⟩
theorem addP_flat (b o j : Nat) : (⟨b, o, none⟩ : Addr).add j = ⟨b, o + j, none⟩ := by unfold Addr.add; split <;> simp_all
def RdN (O : Nat → Prop) (w : World) (p : Option Addr) (c : Nat) (l : Nms) : Prop :=
 (l.length ≤ c ∧ (p = none → c = 0)) ∧ (l ≠ [] → ∃ b o, p = some ⟨b, o, none⟩ ∧ O b ∧ ∀ j x, l[j]? = some x → w.cell? ⟨b, o + j * 2, none⟩ = some (.string x.1) ∧ w.cell? ⟨b, o + j * 2 + 1, none⟩ = some (.int .i64 x.2))
theorem RdN.nil (O : Nat → Prop) (w : World) (p : Option Addr) (c : Nat) (h : p = none → c = 0) : RdN O w p c [] := ⟨⟨Nat.zero_le _, h⟩, fun h => absurd rfl h⟩
theorem RdN.carry {O O' : Nat → Prop} {w w' : World} {p : Option Addr} {c : Nat} {l : Nms} (h : RdN O w p c l) (hO : ∀ k, O k → O' k ∧ w'.heap[k]? = w.heap[k]?) : RdN O' w' p c l :=
 ⟨h.1, fun hn => by
  obtain ⟨b, o, hp, hb, hc⟩ := h.2 hn
  exact ⟨b, o, hp, (hO b hb).1, fun j x hj => ⟨(World.cell?_of_block (hO b hb).2).trans (hc j x hj).1, (World.cell?_of_block (hO b hb).2).trans (hc j x hj).2⟩⟩⟩
theorem RdN.below {O : Nat → Prop} {w w' : World} {p : Option Addr} {c : Nat} {l : Nms} {B : Nat} (h : RdN O w p c l) (hO : ∀ k, O k → k < B) (hb : Below B w w') : RdN O w' p c l := h.carry fun k hk => ⟨hk, hb.block k (hO k hk)⟩
theorem RdN.at {O : Nat → Prop} {w : World} {p : Option Addr} {c : Nat} {l : Nms} (h : RdN O w p c l) {j : Nat} (hj : j < l.length) : ∃ b o, p = some ⟨b, o, none⟩ ∧ O b ∧ w.cell? ⟨b, o + j * 2, none⟩ = some (.string (l.getD j zN).1) ∧ w.cell? ⟨b, o + j * 2 + 1, none⟩ = some (.int .i64 (l.getD j zN).2) := by
 obtain ⟨b, o, hp, hb, hc⟩ := h.2 (by rintro rfl; simp at hj)
 have := hc j (l.getD j zN) (by rw [List.getD_eq_getElem?_getD, List.getElem?_eq_getElem hj]; rfl)
 exact ⟨b, o, hp, hb, this.1, this.2⟩
def SzN (l : Nms) : Prop := l.length ≤ 100000 ∧ ∀ p ∈ l, p.1.size ≤ 1000000000
structure Pl where
 pu : Option Addr
 cu : Nat
 pt : Option Addr
 ct : Nat
abbrev cellsL (l : Lv) (p : Pl) : List Value := [.int .i64 l.ban, .int .i64 l.kick, .int .i64 l.invite, .int .i64 l.redact, .int .i64 l.state, .int .i64 l.events, .int .i64 l.users, .slice p.pu l.byUser.length p.cu, .slice p.pt l.byType.length p.ct]
abbrev valL (l : Lv) (p : Pl) : Value := .agg (cellsL l p).toArray
structure IsL (O : Nat → Prop) (w : World) (l : Lv) (p : Pl) : Prop where
 us : RdN O w p.pu p.cu l.byUser
 ty : RdN O w p.pt p.ct l.byType
structure SzL (l : Lv) : Prop where
 us : SzN l.byUser
 ty : SzN l.byType
theorem IsL.carry {O O' : Nat → Prop} {w w' : World} {l : Lv} {p : Pl} (h : IsL O w l p) (hO : ∀ k, O k → O' k ∧ w'.heap[k]? = w.heap[k]?) : IsL O' w' l p := ⟨h.us.carry hO, h.ty.carry hO⟩
theorem first_any {O : Nat → Prop} {w : World} {p : Option Addr} {c : Nat} {l : Nms} (h : RdN O w p c l) (hO : ∀ k, O k → k < w.heap.size) (hz : SzN l) (s : ByteArray) (d : Int) :
    Calls Tryz.prog 95 #[.slice p l.length c, .string s, .int .i64 d] w fun e w' => e = .returned (.int .i64 ((fnd l s).getD d)) ∧ Below w.heap.size w w' := by
 obtain ⟨n, hn⟩ : ∃ n, l.length = n := ⟨_, rfl⟩
 have HN : Hid (l.length = n) := hn
 have hz1 := hz.1
 have hc := h.1.1
 rw [hn] at hz1 hc ⊢
 clear hn
 go_enter Tryz.func95, Tryz.ntmps95
 go_wp2
 go_loopw [11] (fun i wr => ∃ k : Nat, i = .int .i64 k ∧ k ≤ n ∧ fnd (l.take k) s = none ∧ Below w.heap.size w wr) (fun i _ => n - (intOf i).toNat)
 case atStart => exact ⟨0, rfl, Nat.zero_le _, rfl, Below.refl _ _⟩
 case round =>
  obtain ⟨k, rfl, hk, hf, hbr⟩ := hrel
  by_cases hkn : k < n
  · have hkl : k < l.length := by rw [HN.out]; exact hkn
    obtain ⟨b, o, rfl, hb, h1, h2⟩ := h.at hkl
    have h1' := (hbr.cell (p := ⟨b, o + k * 2, none⟩) (hO b hb)).trans h1
    have h2' := (hbr.cell (p := ⟨b, o + k * 2 + 1, none⟩) (hO b hb)).trans h2
    have hbs := hbr.size
    have hbl := hO b hb
    cases he : ((l.getD k zN).1.toList == s.toList) with
    | true =>
     have HF : Hid (fnd l s = some (l.getD k zN).2) := fnd_hit hf hkl he
     generalize l.getD k zN = x at h1' h2' he HF
     obtain ⟨xn, xl⟩ := x
     simp only at h1' h2' he
     clear h1 h2 hf
     go_wp2
     go_ret
     refine ⟨by rw [HF.out]; rfl, ?_⟩
     exact hbr.trans (((Below.refl _ _).alloc hbs _))
    | false =>
     have HF : Hid (fnd (l.take (k + 1)) s = none) := fnd_miss hf hkl he
     generalize l.getD k zN = x at h1' h2' he
     obtain ⟨xn, xl⟩ := x
     simp only at h1' h2' he
     clear h1 h2 hf
     go_wp2
     go_roundw
     case rel => exact ⟨k + 1, by simp, by omega, HF.out, hbr.trans (((Below.refl _ _).alloc hbs _))⟩
     case measure => simp [intOf]; omega
  · obtain rfl : k = n := by omega
    have HF : Hid (fnd l s = none) := by show _ = _; rw [← List.take_length (l := l), HN.out]; exact hf
    clear hf
    go_wp2
    go_ret
    exact ⟨by rw [HF.out]; rfl, hbr⟩
theorem newP {w : World} (o : Obj) : (w.alloc o).heap[w.heap.size]? = some o := heap_alloc_new w o
theorem belowP {a b c : World} (h : Below a.heap.size a b) (g : Below b.heap.size b c) : Below a.heap.size a c := h.trans ⟨g.os, g.tape, g.output, g.size, fun k hk => g.block k (by have := h.size; omega)⟩
theorem objP_lt {w : World} {b : Nat} {o : Obj} (h : w.heap[b]? = some o) : b < w.heap.size := (Array.getElem?_eq_some_iff.1 h).1
theorem cellP {w : World} {b t : Nat} {cur : Array Value} {fr : Nat × Nat} (h : w.heap[b]? = some (.cells cur t fr)) (j : Nat) (v : Value) (hj : cur[j]? = some v) : w.cell? ⟨b, j, none⟩ = some v := by
 simp [World.cell?, h, hj]
theorem fzP {w : World} {b t : Nat} {cur : Array Value} (h : w.heap[b]? = some (.cells cur t (0, 0))) (j : Nat) : w.frozen? ⟨b, j, none⟩ = false := frozen_of_row w b j _ _ h
def OneP (b : Nat) : Nat → Prop := fun k => k = b
def setL (w : World) (b : Nat) : Nat → List Value → World
 | _, [] => w
 | i, v :: r => setL (w.setCell ⟨b, i, none⟩ v) b (i + 1) r
theorem setL_keep (b : Nat) : ∀ (vs : List Value) (w : World) (i : Nat), Keep (OneP b) w (setL w b i vs)
 | [], w, _ => Keep.refl _ w
 | v :: r, w, i => by
  unfold setL
  exact (Keep.setCell (p := ⟨b, i, none⟩) (Keep.refl (OneP b) w) (fun _ => (rfl : b = b)) v).then (setL_keep b r _ (i + 1))
theorem setL_heap (b t : Nat) : ∀ (vs pre cur : List Value) (w : World), w.heap[b]? = some (.cells (pre ++ cur).toArray t (0, 0)) → cur.length = vs.length → (setL w b pre.length vs).heap[b]? = some (.cells (pre ++ vs).toArray t (0, 0))
 | [], pre, cur, w, h, hl => by
  obtain rfl : cur = [] := List.eq_nil_of_length_eq_zero hl
  exact h
 | v :: r, pre, c :: cur, w, h, hl => by
  unfold setL
  have h0 : (w.setCell ⟨b, pre.length, none⟩ v).heap[b]? = some (.cells ((pre ++ [v]) ++ cur).toArray t (0, 0)) := by
   rw [heap_setCell_same w b pre.length _ _ _ h]
   simp
  have := setL_heap b t r (pre ++ [v]) cur _ h0 (by simpa using hl)
  rw [List.length_append] at this
  simpa using this
theorem setL_all {w : World} {b t : Nat} {cur : List Value} (vs : List Value) (h : w.heap[b]? = some (.cells cur.toArray t (0, 0))) (hl : cur.length = vs.length) : (setL w b 0 vs).heap[b]? = some (.cells vs.toArray t (0, 0)) := setL_heap b t vs [] cur w h hl
def flatN : Nms → List Value
 | [] => []
 | x :: r => .string x.1 :: .int .i64 x.2 :: flatN r
theorem flatN_len : ∀ l : Nms, (flatN l).length = l.length * 2
 | [] => rfl
 | x :: r => by simp only [flatN, List.length_cons, flatN_len r]; omega
theorem flatN_append : ∀ a b : Nms, flatN (a ++ b) = flatN a ++ flatN b
 | [], _ => rfl
 | x :: r, b => by simp only [List.cons_append, flatN, flatN_append r b]
theorem flatN_at : ∀ (l : Nms) (j : Nat) (x : ByteArray × Int), l[j]? = some x → (flatN l)[j * 2]? = some (.string x.1) ∧ (flatN l)[j * 2 + 1]? = some (.int .i64 x.2)
 | [], _, _, h => by simp at h
 | y :: r, 0, x, h => by simp at h; subst h; exact ⟨rfl, rfl⟩
 | y :: r, j + 1, x, h => by
  have := flatN_at r j x (by simpa using h)
  rw [show (j + 1) * 2 = j * 2 + 1 + 1 by omega]
  exact this
theorem rdN_of {w : World} {O : Nat → Prop} {b t o c : Nat} {fr : Nat × Nat} {l : Nms} {cur : List Value} (hO : O b) (h : w.heap[b]? = some (.cells cur.toArray t fr)) (hl : l.length ≤ c) (hc : ∀ j, j < (flatN l).length → cur[o + j]? = (flatN l)[j]?) : RdN O w (some ⟨b, o, none⟩) c l := by
 refine ⟨⟨hl, fun h => by cases h⟩, fun _ => ⟨b, o, rfl, hO, fun j x hj => ?_⟩⟩
 have hlt : j < l.length := (List.getElem?_eq_some_iff.1 hj).1
 have hf := flatN_at l j x hj
 have hn := flatN_len l
 refine ⟨cellP h _ _ ?_, cellP h _ _ ?_⟩
 · have := hc (j * 2) (by omega)
   rw [hf.1] at this
   simpa using this
 · have := hc (j * 2 + 1) (by omega)
   rw [hf.2] at this
   simpa [Nat.add_assoc] using this
theorem rdN_flat {w : World} {O : Nat → Prop} {b t : Nat} {fr : Nat × Nat} {l : Nms} (hO : O b) (h : w.heap[b]? = some (.cells (flatN l).toArray t fr)) : RdN O w (some ⟨b, 0, none⟩) l.length l :=
 rdN_of hO h (Nat.le_refl _) fun j _ => by rw [Nat.zero_add]
theorem loadL9 {w : World} {b t : Nat} {a0 a1 a2 a3 a4 a5 a6 a7 a8 : Value} (h : w.heap[b]? = some (.cells #[a0, a1, a2, a3, a4, a5, a6, a7, a8] t (0, 0))) : (loadVar 60 ⟨b, 0, none⟩).run Tryz.prog w = .ok (.agg #[a0, a1, a2, a3, a4, a5, a6, a7, a8]) w := by
 have k0 := cellP h 0 _ rfl; have k1 := cellP h 1 _ rfl; have k2 := cellP h 2 _ rfl; have k3 := cellP h 3 _ rfl; have k4 := cellP h 4 _ rfl; have k5 := cellP h 5 _ rfl; have k6 := cellP h 6 _ rfl; have k7 := cellP h 7 _ rfl; have k8 := cellP h 8 _ rfl
 simp [loadVar, go_sem, k0, k1, k2, k3, k4, k5, k6, k7, k8]
theorem resultsP_cell {fn : Func} {a : Tmp} {t : TypeId} (h : fn.results = #[.cell a t]) (tmps : Array Value) (P : Program) (w : World) {ad : Addr} {v : Value} (hp : tmps.getD a undef = .pointer (some ad)) (hl : (loadVar t ad).run P w = .ok v w) :
    (results fn tmps).run P w = .ok v w := by
 rw [Array.getD_eq_getD_getElem?] at hp
 simp [results, h, hp, hl, asAddr]
theorem szP_ordL {d : Nat} (ih : ∀ j, goodJ d j = true → szJ d j = true → szJ d (ord j) = true) : ∀ l : List J, l.all (goodJ d) = true → l.all (szJ d) = true → (ordL l).all (szJ d) = true
 | [], _, _ => rfl
 | j :: r, hg, hs => by
  rw [List.all_cons, Bool.and_eq_true] at hg hs
  rw [ordL, List.all_cons, ih j hg.1 hs.1, szP_ordL ih r hg.2 hs.2]
  rfl
theorem szP_ord : ∀ (d : Nat) (j : J), goodJ d j = true → szJ d j = true → szJ d (ord j) = true
 | 0, j, _, _ => by unfold szJ; rfl
 | d + 1, .mk k i t ks l, hg, hs => by
  obtain ⟨hgl, hg5, hgn⟩ := good_sub hg
  unfold szJ at hs
  simp only [Bool.and_eq_true, decide_eq_true_eq] at hs
  obtain ⟨hts, hkn, hks, hll, hls⟩ := hs
  have hol := szP_ordL (szP_ord d) l hgl hls
  by_cases h5 : k = 5
  · subst h5
    have hlen : ks.length = (ordL l).length := by rw [ordL_length]; exact (hg5 rfl).1
    have p1 := sorted_keys hlen
    have p2 := sorted_vals hlen
    rw [ord, if_pos rfl]
    unfold mapOf szJ
    simp only [Bool.and_eq_true, decide_eq_true_eq]
    refine ⟨by decide, by rw [p1.length_eq]; exact hkn, ?_, by rw [p2.length_eq, ordL_length]; exact hll, ?_⟩
    · rw [List.all_eq_true] at hks ⊢
      exact fun x hx => hks x (p1.subset hx)
    · rw [List.all_eq_true] at hol ⊢
      exact fun x hx => hol x (p2.subset hx)
  · rw [ord, if_neg h5]
    unfold szJ
    simp only [Bool.and_eq_true, decide_eq_true_eq]
    exact ⟨hts, by simp, by rfl, by rw [ordL_length]; exact hll, hol⟩
def OkJ (d : Nat) (j : J) : Prop := goodJ d j = true ∧ inOrd j = true ∧ szJ d j = true
theorem ordT_okJ {j : J} (hs : szJ 12 j = true) : OkJ 12 (ordT j) := by
 unfold ordT
 split
 · rename_i hg
   exact ⟨good_ord 12 j hg, inOrd_ord 12 j hg, szP_ord 12 j hg hs⟩
 · exact ⟨by kernel_rfl, by kernel_rfl, by kernel_rfl⟩
theorem OkJ.parts {d : Nat} {k i : Int} {t : ByteArray} {ks : List ByteArray} {l : List J} (h : OkJ (d + 1) (.mk k i t ks l)) :
    rises ks = true ∧ (k = 5 → ks.length = l.length) ∧ (k ≠ 5 → ks = []) ∧ ks.length ≤ 100000 ∧ (∀ x ∈ ks, x.size ≤ 1000000000) ∧ ∀ x ∈ l, OkJ d x := by
 obtain ⟨hg, ho, hs⟩ := h
 obtain ⟨hgl, hg5, hgn⟩ := good_sub hg
 rw [inOrd, Bool.and_eq_true, inOrdL_all] at ho
 unfold szJ at hs
 simp only [Bool.and_eq_true, decide_eq_true_eq] at hs
 obtain ⟨_, hkn, hks, _, hls⟩ := hs
 refine ⟨ho.1, fun e => (hg5 e).1, hgn, hkn, fun x hx => by simpa using List.all_eq_true.1 hks x hx, fun x hx => ⟨List.all_eq_true.1 hgl x hx, ho.2 x hx, List.all_eq_true.1 hls x hx⟩⟩
theorem OkJ.lens {d : Nat} {k i : Int} {t : ByteArray} {ks : List ByteArray} {l : List J} (h : OkJ (d + 1) (.mk k i t ks l)) : ks.length ≤ l.length := by
 obtain ⟨_, h5, hn, _⟩ := h.parts
 by_cases e : k = 5
 · exact Nat.le_of_eq (h5 e)
 · rw [hn e]; exact Nat.zero_le _
def J.ks : J → List ByteArray
 | .mk _ _ _ ks _ => ks
def J.ls : J → List J
 | .mk _ _ _ _ l => l
def J.kd : J → Int
 | .mk k _ _ _ _ => k
def J.nm : J → Int
 | .mk _ i _ _ _ => i
theorem ltP_ne {a b : ByteArray} (h : ltK a b = true) : a ≠ b := by
 intro e; subst e; rw [ltK_irrefl] at h; cases h
def lookV : List ByteArray → List J → ByteArray → Option J
 | k :: ks, v :: l, s => if k.toList == s.toList then some v else lookV ks l s
 | _, _, _ => none
theorem lookJ_at : ∀ {ks : List ByteArray} {l : List J} {s : ByteArray} {n : Nat}, ks.length ≤ l.length → n < ks.length → ks.getD n nix = s → (∀ m, m < n → ks.getD m nix ≠ s) → lookV ks l s = some (l.getD n J.zero)
 | [], _, _, _, _, h, _, _ => absurd h (by simp)
 | _ :: _, [], _, _, h, _, _, _ => absurd h (by simp)
 | k :: ks, v :: l, s, 0, _, _, he, _ => by
  have he : k = s := by simpa using he
  subst he
  simp [lookV]
 | k :: ks, v :: l, s, n + 1, h1, h2, he, hm => by
  have h0 : k ≠ s := by have := hm 0 (by omega); simpa using this
  unfold lookV
  rw [if_neg (fun e => h0 (bytes_eq.1 e)), lookJ_at (n := n) (by simpa using h1) (by simpa using h2) (by simpa using he) (fun m h => by have := hm (m + 1) (by omega); simpa using this)]
  simp
theorem lookJ_none : ∀ {ks : List ByteArray} {l : List J} {s : ByteArray}, s ∉ ks → lookV ks l s = none
 | [], _, _, _ => by unfold lookV; rfl
 | k :: ks, [], _, _ => by unfold lookV; rfl
 | k :: ks, v :: l, s, h => by
  unfold lookV
  rw [if_neg (fun e => h (by simp [bytes_eq.1 e]))]
  exact lookJ_none (fun h' => h (by simp [h']))
theorem lookJ_mem : ∀ {ks : List ByteArray} {l : List J} {s : ByteArray} {v : J}, lookV ks l s = some v → v ∈ l
 | [], _, _, _, h => by unfold lookV at h; cases h
 | _ :: _, [], _, _, h => by unfold lookV at h; cases h
 | k :: ks, x :: l, s, v, h => by
  unfold lookV at h
  split at h
  · cases h; simp
  · exact List.mem_cons_of_mem _ (lookJ_mem h)
theorem rises_lt : ∀ {ks : List ByteArray}, rises ks = true → ∀ {m n : Nat}, m < n → n < ks.length → ltK (ks.getD m nix) (ks.getD n nix) = true
 | [], _, _, _, _, h => absurd h (by simp)
 | k :: ks, h, 0, n + 1, _, hn => by
  rw [rises, Bool.and_eq_true] at h
  have hn' : n < ks.length := by simpa using hn
  have := List.all_eq_true.1 h.1 ks[n] (List.getElem_mem hn')
  simpa [List.getD_eq_getElem?_getD, List.getElem?_eq_getElem hn'] using this
 | k :: ks, h, m + 1, n + 1, hmn, hn => by
  rw [rises, Bool.and_eq_true] at h
  have := rises_lt h.2 (m := m) (n := n) (by omega) (by simpa using hn)
  simpa using this
theorem bytesLessP_eq : ∀ x y : List UInt8, Op.bytesLess x y = lessB x y
 | _, [] => by cases ‹List UInt8› <;> rfl
 | [], _ :: _ => rfl
 | a :: x, b :: y => by
  unfold Op.bytesLess lessB
  rw [bytesLessP_eq x y]
  cases h : decide (a = b) <;> simp_all
theorem lessP_ltK (a b : ByteArray) : Op.bytesLess a.toList b.toList = ltK a b := by
 rw [bytesLessP_eq]
 unfold ltK
 rw [Lib.toList_data, Lib.toList_data]
theorem cNaN_any {w : World} (s : ByteArray) : Calls Tryz.prog 102 #[.string s] w fun e w' => e = .returned (.bool false) ∧ w = w' := by
 go_enter Tryz.func102, Tryz.ntmps102
 go_wp2
 go_ret
 exact ⟨by simp, rfl⟩
theorem sNaN_any {w : World} (s : ByteArray) : Calls Tryz.prog 165 #[.string s] w fun e w' => e = .returned (.bool false) ∧ w = w' := by
 go_enter Tryz.func165, Tryz.ntmps165
 go_wp2
 go_ret
 exact ⟨by simp, rfl⟩
theorem less_any {w : World} (s t : ByteArray) : Calls Tryz.prog 164 #[.string s, .string t] w fun e w' => e = .returned (.bool (ltK s t)) ∧ w = w' := by
 have hl := lessP_ltK s t
 go_enter Tryz.func164, Tryz.ntmps164
 go_wp2_with (go_at_call 102; refine (cNaN_any s).mono ?_; rintro e w' ⟨rfl, rfl⟩)
 go_ret
 exact ⟨rfl, rfl⟩
structure At (ks : List ByteArray) (s : ByteArray) (n : Nat) : Prop where
 le : n ≤ ks.length
 lo : ∀ m, m < n → ltK (keyAtK ks m) s = true
 hi : ∀ m, n ≤ m → m < ks.length → ltK (keyAtK ks m) s = false
theorem search_any {O : Nat → Prop} {w : World} {p : Option Addr} {c : Nat} {ks : List ByteArray} (h : RdK O w p c ks) (hr : rises ks = true) (hn : ks.length ≤ 100000) (s : ByteArray) :
    Calls Tryz.prog 148 #[.slice p ks.length c, .string s] w fun e w' => (∃ n : Nat, e = .returned (.tuple #[.int .i64 n, .bool (decide (n < ks.length) && ((keyAtK ks n).toList == s.toList))]) ∧ At ks s n) ∧ w = w' := by
 obtain ⟨m, hm⟩ : ∃ m, ks.length = m := ⟨_, rfl⟩
 have HM : Hid (ks.length = m) := hm
 have hc := h.1
 rw [hm] at hn hc ⊢
 clear hm
 have HR : Hid (rises ks = true) := hr
 clear hr
 go_enter Tryz.func148, Tryz.ntmps148
 go_wp2
 go_loopw [7, 8] (fun i j wr => (∃ a b : Nat, i = .int .i64 a ∧ j = .int .i64 b ∧ a ≤ b ∧ b ≤ m ∧ Hid ((∀ x, x < a → ltK (keyAtK ks x) s = true) ∧ (∀ x, b ≤ x → x < ks.length → ltK (keyAtK ks x) s = false))) ∧ wr = w) (fun i j _ => (intOf j).toNat - (intOf i).toNat)
 case atStart => exact ⟨⟨0, m, rfl, rfl, Nat.zero_le _, Nat.le_refl _, fun x hx => absurd hx (by omega), fun x h1 h2 => absurd h2 (by rw [HM.out]; omega)⟩, rfl⟩
 case round =>
  obtain ⟨⟨a, b, rfl, rfl, hab, hbm, hin⟩, hwr⟩ := hrel
  rw [hwr]
  clear hwr
  by_cases hlt : a < b
  · go_upto_region 5 with fail
    obtain ⟨h2, he⟩ : ∃ h2 : Nat, ((a : Int) + b) / 2 = h2 ∧ a ≤ h2 ∧ h2 < b := ⟨(a + b) / 2, by omega, by omega, by omega⟩
    have HE : Hid (a ≤ h2 ∧ h2 < b) := he.2
    rw [he.1]
    clear he
    have hkm : h2 < m := by have := HE.out; omega
    have hkl : h2 < ks.length := by rw [HM.out]; exact hkm
    obtain ⟨ad, rfl, _, hcl⟩ := h.2 h2 hkl
    have HLT : Hid (∀ x, x < h2 → ltK (keyAtK ks x) (keyAtK ks h2) = true) := fun x hx => rises_lt HR.out hx hkl
    have HGT : Hid (∀ x, h2 < x → x < ks.length → ltK (keyAtK ks h2) (keyAtK ks x) = true) := fun x hx hl => rises_lt HR.out hx hl
    have HIN : Hid ((∀ x, x < a → ltK (keyAtK ks x) s = true) ∧ (∀ x, b ≤ x → x < ks.length → ltK (keyAtK ks x) s = false)) := hin
    change w.cell? (ad.add h2) = some (.string (keyAtK ks h2)) at hcl
    generalize hK : keyAtK ks h2 = K at hcl HLT HGT
    have HKK : Hid (keyAtK ks h2 = K) := hK
    clear hK hin hkl
    have hle := less_any (w := w) K s
    cases hl : ltK K s with
    | true =>
     have HL : Hid (ltK K s = true) := hl
     rw [hl] at hle
     clear hl
     go_wp2_with (go_at_call 164; refine hle.mono ?_; rintro e w' ⟨rfl, rfl⟩)
     go_roundw
     case rel =>
      have := HE.out
      refine ⟨⟨h2 + 1, b, by simp, rfl, by omega, hbm, fun x hx => ?_, HIN.out.2⟩, trivial⟩
      by_cases e : x = h2
      · subst e; rw [HKK.out]; exact HL.out
      · exact ltK_trans (HLT.out x (by omega)) HL.out
     case measure => have := HE.out; simp [intOf]; omega
    | false =>
     have HL : Hid (ltK K s = false) := hl
     rw [hl] at hle
     clear hl
     go_wp2_with (go_at_call 164; refine hle.mono ?_; rintro e w' ⟨rfl, rfl⟩)
     go_roundw
     case rel =>
      have := HE.out
      refine ⟨⟨a, h2, rfl, rfl, by omega, by omega, HIN.out.1, fun x h1 h3 => ?_⟩, trivial⟩
      by_cases e : x = h2
      · subst e; rw [HKK.out]; exact HL.out
      · cases hx : ltK (keyAtK ks x) s with
        | false => rfl
        | true =>
         have := ltK_trans (HGT.out x (by omega) h3) hx
         rw [HL.out] at this
         cases this
     case measure => have := HE.out; simp [intOf]; omega
  · obtain rfl : a = b := by omega
    have HIN : Hid (At ks s a) := ⟨by rw [HM.out]; exact hbm, hin.out.1, hin.out.2⟩
    clear hin
    by_cases ham : a < m
    · obtain ⟨ad, rfl, _, hcl⟩ := h.2 a (by rw [HM.out]; exact ham)
      change w.cell? (ad.add a) = some (.string (keyAtK ks a)) at hcl
      have HRS : Hid (∀ v, v = (.tuple #[.int .i64 a, .bool (decide (a < m) && ((keyAtK ks a).toList == s.toList))] : Value) → ∃ n : Nat, Ending.returned v = .returned (.tuple #[.int .i64 n, .bool (decide (n < m) && ((keyAtK ks n).toList == s.toList))]) ∧ At ks s n) := fun v hv => ⟨a, by rw [hv], HIN.out⟩
      generalize keyAtK ks a = K at hcl HRS
      have hna := sNaN_any (w := w) K
      cases hq : (K.toList == s.toList) with
      | true =>
       rw [hq] at HRS
       go_wp2
       go_ret2
       exact ⟨HRS.out _ (by simp [ham]), rfl⟩
      | false =>
       rw [hq] at HRS
       go_wp2_with (go_at_call 165; refine hna.mono ?_; rintro e w' ⟨rfl, rfl⟩)
       go_ret2
       exact ⟨HRS.out _ (by simp), rfl⟩
    · have HRS : Hid (∀ v, v = (.tuple #[.int .i64 a, .bool false] : Value) → ∃ n : Nat, Ending.returned v = .returned (.tuple #[.int .i64 n, .bool (decide (n < m) && ((keyAtK ks n).toList == s.toList))]) ∧ At ks s n) := fun v hv => ⟨a, by rw [hv]; simp [ham], HIN.out⟩
      go_wp2
      go_ret2
      exact ⟨HRS.out _ rfl, rfl⟩
theorem resultsP_cell_tmp {fn : Func} {a u : Tmp} {t : TypeId} (h : fn.results = #[.cell a t, .tmp u]) (tmps : Array Value) (P : Program) (w : World) {ad : Addr} {v : Value} (hp : tmps.getD a undef = .pointer (some ad)) (hl : (loadVar t ad).run P w = .ok v w) :
    (results fn tmps).run P w = .ok (.tuple #[v, tmps.getD u undef]) w := by
 rw [Array.getD_eq_getD_getElem?] at hp
 simp [results, h, hp, hl, asAddr]
theorem loadJP {w : World} {b t : Nat} {a0 a1 a2 a3 a4 : Value} (h : w.heap[b]? = some (.cells #[a0, a1, a2, a3, a4] t (0, 0))) : (loadVar 36 ⟨b, 0, none⟩).run Tryz.prog w = .ok (.agg #[a0, a1, a2, a3, a4]) w := by
 have k0 := cellP h 0 _ rfl; have k1 := cellP h 1 _ rfl; have k2 := cellP h 2 _ rfl; have k3 := cellP h 3 _ rfl; have k4 := cellP h 4 _ rfl
 simp [loadVar, go_sem, k0, k1, k2, k3, k4]
theorem isJP_parts {O : Nat → Prop} {w : World} {kx ix : Int} {tx : ByteArray} {ks : List ByteArray} {l : List J} {k i : Int} {t : ByteArray} {pk pl : Option Addr} {nk ck nl cl : Nat} (h : isJ O w (.mk kx ix tx ks l) [.int .i64 k, .int .i64 i, .string t, .slice pk nk ck, .slice pl nl cl]) :
    k = kx ∧ i = ix ∧ t = tx ∧ nk = ks.length ∧ nl = l.length ∧ RdK O w pk ck ks ∧ l.length ≤ cl ∧ isJs O w pl 0 l := by
 unfold isJ at h
 obtain ⟨pk', ck', pl', cl', e, h1, h2, h3⟩ := h
 simp only [List.cons.injEq, Value.int.injEq, Value.string.injEq, Value.slice.injEq, true_and, and_true] at e
 obtain ⟨rfl, rfl, rfl, ⟨rfl, rfl, rfl⟩, rfl, rfl, rfl⟩ := e
 exact ⟨rfl, rfl, rfl, rfl, rfl, h1, h2, h3⟩
abbrev zJP : Value := .agg #[.int .i64 0, .int .i64 0, .string ⟨#[]⟩, .slice none 0 0, .slice none 0 0]
def UnderT (O : Nat → Prop) (w' : World) : Option J → Ending → Prop
 | none, e => e = .returned (.tuple #[zJP, .bool false])
 | some v, e => ∃ k i t p n c q m d, e = .returned (.tuple #[.agg #[.int .i64 k, .int .i64 i, .string t, .slice p n c, .slice q m d], .bool true]) ∧ isJ O w' v [.int .i64 k, .int .i64 i, .string t, .slice p n c, .slice q m d]
theorem At.found {ks : List ByteArray} {s : ByteArray} {n : Nat} (h : At ks s n) {l : List J} (hl : ks.length ≤ l.length) (hn : n < ks.length) (he : (keyAtK ks n).toList == s.toList) : lookV ks l s = some (l.getD n J.zero) :=
 lookJ_at hl hn (bytes_eq.1 he) fun m hm => ltP_ne (h.lo m hm)
theorem At.none {ks : List ByteArray} {s : ByteArray} {n : Nat} (h : At ks s n) (hr : rises ks = true) {l : List J} (he : (decide (n < ks.length) && ((keyAtK ks n).toList == s.toList)) = false) : lookV ks l s = none := by
 refine lookJ_none fun hm => ?_
 obtain ⟨m, hml, hms⟩ := List.getElem_of_mem hm
 have hk : keyAtK ks m = s := by unfold keyAtK; rw [List.getD_eq_getElem?_getD, List.getElem?_eq_getElem hml]; exact hms
 rcases Nat.lt_or_ge m n with h1 | h1
 · exact ltP_ne (h.lo m h1) hk
 · have hnl : n < ks.length := by omega
   by_cases e : m = n
   · subst e
     rw [hk] at he
     simp [hnl] at he
   · have := rises_lt hr (m := n) (n := m) (by omega) hml
     rw [show ks.getD m nix = s from hk] at this
     have h2 := h.hi n (Nat.le_refl _) hnl
     unfold keyAtK at h2
     rw [this] at h2
     cases h2
theorem under_any {O : Nat → Prop} {w : World} {Rb d : Nat} {j : J} {k i : Int} {t : ByteArray} {pk pl : Option Addr} {nk ck nl cl : Nat} {bad : Bool} (hR : w.heap[Rb]? = some (.cells #[.int .i64 k, .int .i64 i, .string t, .slice pk nk ck, .slice pl nl cl, .bool bad] 120 (0, 0)))
    (hj : isJ O w j [.int .i64 k, .int .i64 i, .string t, .slice pk nk ck, .slice pl nl cl]) (hO : ∀ x, O x → x < w.heap.size) (hok : OkJ (d + 1) j) (s : ByteArray) :
    Calls Tryz.prog 122 #[.pointer (some ⟨Rb, 0, none⟩), .string s] w fun e w' => UnderT O w' (lookV j.ks j.ls s) e ∧ Below w.heap.size w w' := by
 obtain ⟨kx, ix, tx, ks, l⟩ := j
 obtain ⟨rfl, rfl, rfl, rfl, rfl, hk, hcl, hjs⟩ := isJP_parts hj
 clear hj
 have hris := hok.parts.1
 have hkn := hok.parts.2.2.2.1
 have hlen := hok.lens
 simp only [J.ks, J.ls]
 obtain ⟨wA, hwA⟩ : ∃ wA, wA = w.alloc (.cells #[.int .i64 0, .int .i64 0, .string ⟨#[]⟩, .slice none 0 0, .slice none 0 0] 36) := ⟨_, rfl⟩
 have hbA : Below w.heap.size w wA := by rw [hwA]; exact (Below.refl _ _).alloc (Nat.le_refl _) _
 have hA : wA.heap[w.heap.size]? = some (.cells #[.int .i64 0, .int .i64 0, .string ⟨#[]⟩, .slice none 0 0, .slice none 0 0] 36 (0, 0)) := by rw [hwA]; exact newP _
 have hRA := (hbA.block Rb (objP_lt hR)).trans hR
 have hS := search_any (hk.carry (O' := O) (w' := wA) fun x hx => ⟨hx, hbA.block x (hO x hx)⟩) hris hkn s
 have r3 := cellP hRA 3 _ rfl
 have r4 := cellP hRA 4 _ rfl
 have hRlt := objP_lt hR
 have i0 := cellP hA 0 _ rfl; have i1 := cellP hA 1 _ rfl; have i2 := cellP hA 2 _ rfl; have i3 := cellP hA 3 _ rfl; have i4 := cellP hA 4 _ rfl
 have z0 := fzP hA 0; have z1 := fzP hA 1; have z2 := fzP hA 2; have z3 := fzP hA 3; have z4 := fzP hA 4
 have HA : Hid (wA.heap[w.heap.size]? = some (.cells #[.int .i64 0, .int .i64 0, .string ⟨#[]⟩, .slice none 0 0, .slice none 0 0] 36 (0, 0))) := hA
 have HRI : Hid (rises ks = true) := hris
 have HLE : Hid (ks.length ≤ l.length) := hlen
 have HJS : Hid (isJs O w pl 0 l) := hjs
 obtain ⟨nk, hnk⟩ : ∃ n, ks.length = n := ⟨_, rfl⟩
 obtain ⟨nl, hnl⟩ : ∃ n, l.length = n := ⟨_, rfl⟩
 have HNK : Hid (ks.length = nk) := hnk
 have HNL : Hid (l.length = nl) := hnl
 rw [hnk] at hS r3 hkn
 rw [hnl] at r4 hcl
 clear hnk hnl hris hlen hjs hk hok hR hRA hA
 go_enter Tryz.func122, Tryz.ntmps122
 go_upto_region 1 with fail
 rw [← hwA]
 clear hwA
 go_upto_region 2 with (go_at_call 148; refine hS.mono ?_; rintro e w' ⟨⟨n, rfl, hat⟩, rfl⟩)
 have HAT : Hid (At ks s n) := hat
 cases hf : (decide (n < nk) && ((keyAtK ks n).toList == s.toList)) with
 | false =>
  have HLK : Hid (lookV ks l s = none) := HAT.out.none HRI.out (by rw [HNK.out]; exact hf)
  clear hS hat HAT HJS
  go_wp2
  have h5 := setL_all (b := w.heap.size) [.int .i64 0, .int .i64 0, .string ⟨#[]⟩, .slice none 0 0, .slice none 0 0] HA.out rfl
  have HK5 := setL_keep w.heap.size [.int .i64 0, .int .i64 0, .string ⟨#[]⟩, .slice none 0 0, .slice none 0 0] wA 0
  simp only [setL, Nat.zero_add, Nat.reduceAdd] at h5 HK5
  refine bodyPost_ret (resultsP_cell_tmp rfl _ _ _ rfl (loadJP h5)) rfl ?_
  rw [HLK.out]
  exact ⟨rfl, hbA.trans (HK5.below hbA.size fun k hk e => by unfold OneP at e; omega)⟩
 | true =>
  have hf' := hf
  simp only [Bool.and_eq_true, decide_eq_true_eq] at hf'
  have hnl : n < nl := by have := HLE.out; rw [HNK.out, HNL.out] at this; omega
  have HLK : Hid (lookV ks l s = some (l.getD n J.zero)) := HAT.out.found HLE.out (by rw [HNK.out]; exact hf'.1) hf'.2
  obtain ⟨lb, lo, cs, hpl, hOb, hcells, hyj⟩ := isJs.at l 0 n HJS.out (by rw [HNL.out]; exact hnl)
  subst hpl
  obtain ⟨kv, iv, tv, pv, nv, cv, qv, mv, dv, rfl⟩ := isJ_shape hyj
  have cc : ∀ m v, [Value.int .i64 kv, .int .i64 iv, .string tv, .slice pv nv cv, .slice qv mv dv][m]? = some v → wA.cell? ⟨lb, lo + n * 5 + m, none⟩ = some v := fun m v h => by
   have := hcells m v h
   rw [Nat.zero_add] at this
   exact (World.cell?_of_block (a := ⟨lb, lo + n * 5 + m, none⟩) (hbA.block lb (hO lb hOb))).trans this
  have y0 : wA.cell? ⟨lb, lo + n * 5, none⟩ = some (.int .i64 kv) := cc 0 _ rfl
  have y1 := cc 1 _ rfl
  have y2 := cc 2 _ rfl
  have y3 := cc 3 _ rfl
  have y4 := cc 4 _ rfl
  have HYJ : Hid (isJ O w (l.getD n J.zero) [Value.int .i64 kv, .int .i64 iv, .string tv, .slice pv nv cv, .slice qv mv dv]) := hyj
  have hlb := hO lb hOb
  clear cc hcells hyj hS hat HAT HJS hf'
  go_wp2
  have h5 := setL_all (b := w.heap.size) [.int .i64 kv, .int .i64 iv, .string tv, .slice pv nv cv, .slice qv mv dv] HA.out rfl
  have HK5 := setL_keep w.heap.size [.int .i64 kv, .int .i64 iv, .string tv, .slice pv nv cv, .slice qv mv dv] wA 0
  simp only [setL, Nat.zero_add, Nat.reduceAdd] at h5 HK5
  refine bodyPost_ret (resultsP_cell_tmp rfl _ _ _ rfl (loadJP h5)) rfl ?_
  rw [HLK.out]
  have hbE := hbA.trans (HK5.below hbA.size fun k hk e => by unfold OneP at e; omega)
  exact ⟨⟨_, _, _, _, _, _, _, _, _, rfl, HYJ.out.carry fun x hx => ⟨hx, hbE.block x (hO x hx)⟩⟩, hbE⟩
def lvOk (k i : Int) : Bool := decide (k = 2) && (decide (-1073741824 ≤ i) && decide (i ≤ 1073741824))
abbrev RdrIs (w : World) (Rb : Nat) (a0 a1 a2 a3 a4 : Value) (bad : Bool) : Prop := w.heap[Rb]? = some (.cells #[a0, a1, a2, a3, a4, .bool bad] 120 (0, 0))
theorem RdrIs.set {w : World} {Rb : Nat} {a0 a1 a2 a3 a4 : Value} {bad : Bool} (h : RdrIs w Rb a0 a1 a2 a3 a4 bad) (b : Bool) : RdrIs (w.setCell ⟨Rb, 5, none⟩ (.bool b)) Rb a0 a1 a2 a3 a4 b := by
 show (w.setCell ⟨Rb, 5, none⟩ (.bool b)).heap[Rb]? = _
 rw [heap_setCell_same w Rb 5 _ _ _ h]
 rfl
theorem level_any {w : World} {Rb : Nat} {a0 a1 a2 a3 a4 : Value} {bad : Bool} (hR : RdrIs w Rb a0 a1 a2 a3 a4 bad) (k i : Int) (t : ByteArray) (p q : Option Addr) (n c m d : Nat) :
    Calls Tryz.prog 123 #[.pointer (some ⟨Rb, 0, none⟩), .agg #[.int .i64 k, .int .i64 i, .string t, .slice p n c, .slice q m d]] w fun e w' => e = .returned (.int .i64 i) ∧ RdrIs w' Rb a0 a1 a2 a3 a4 (bad || !lvOk k i) ∧ Keep (OneP Rb) w w' := by
 obtain ⟨wA, hwA⟩ : ∃ wA, wA = w.alloc (.cells #[.int .i64 k, .int .i64 i, .string t, .slice p n c, .slice q m d] 36) := ⟨_, rfl⟩
 have hbA : Below w.heap.size w wA := by rw [hwA]; exact (Below.refl _ _).alloc (Nat.le_refl _) _
 have hA : wA.heap[w.heap.size]? = some (.cells #[.int .i64 k, .int .i64 i, .string t, .slice p n c, .slice q m d] 36 (0, 0)) := by rw [hwA]; exact newP _
 have hlt := objP_lt hR
 have hRA : RdrIs wA Rb a0 a1 a2 a3 a4 bad := (hbA.block Rb hlt).trans hR
 have i0 := cellP hA 0 _ rfl; have i1 := cellP hA 1 _ rfl
 have r5 := cellP hRA 5 _ rfl
 have rz := fzP hRA 5
 have HBE : Hid (Keep (OneP Rb) w wA) := Keep.of_below hbA
 have HRA : Hid (RdrIs wA Rb a0 a1 a2 a3 a4 bad) := hRA
 have i0' : (wA.setCell ⟨Rb, 5, none⟩ (.bool true)).cell? ⟨w.heap.size, 0, none⟩ = some (.int .i64 k) := by
  rw [World.cell?_of_block (Below.heap_setCell wA ⟨Rb, 5, none⟩ _ w.heap.size (by simp; omega))]; exact i0
 have i1' : (wA.setCell ⟨Rb, 5, none⟩ (.bool true)).cell? ⟨w.heap.size, 1, none⟩ = some (.int .i64 i) := by
  rw [World.cell?_of_block (Below.heap_setCell wA ⟨Rb, 5, none⟩ _ w.heap.size (by simp; omega))]; exact i1
 clear hA hRA hR
 by_cases hk : k = 2
 · by_cases h1 : -1073741824 ≤ i
   · by_cases h2 : i ≤ 1073741824
     · have HL : Hid (lvOk k i = true) := by show _ = _; simp [lvOk, hk, h1, h2]
       subst hk
       go_enter Tryz.func123, Tryz.ntmps123
       go_upto_region 1 with fail
       rw [← hwA]
       clear hwA
       go_wp2
       go_ret
       rw [HL.out]
       exact ⟨rfl, by simpa using HRA.out, HBE.out⟩
     · have HL : Hid (lvOk k i = false) := by show _ = _; simp [lvOk, hk, h1, h2]
       subst hk
       go_enter Tryz.func123, Tryz.ntmps123
       go_upto_region 1 with fail
       rw [← hwA]
       clear hwA
       go_wp2
       go_ret
       rw [HL.out]
       exact ⟨rfl, by simpa using HRA.out.set true, HBE.out.setCell (p := ⟨Rb, 5, none⟩) (fun _ => (rfl : Rb = Rb)) _⟩
   · have HL : Hid (lvOk k i = false) := by show _ = _; simp [lvOk, hk, h1]
     subst hk
     go_enter Tryz.func123, Tryz.ntmps123
     go_upto_region 1 with fail
     rw [← hwA]
     clear hwA
     go_wp2
     go_ret
     rw [HL.out]
     exact ⟨rfl, by simpa using HRA.out.set true, HBE.out.setCell (p := ⟨Rb, 5, none⟩) (fun _ => (rfl : Rb = Rb)) _⟩
 · have HL : Hid (lvOk k i = false) := by show _ = _; simp [lvOk, hk]
   go_enter Tryz.func123, Tryz.ntmps123
   go_upto_region 1 with fail
   rw [← hwA]
   clear hwA
   go_wp2
   go_ret
   rw [HL.out]
   exact ⟨rfl, by simpa using HRA.out.set true, HBE.out.setCell (p := ⟨Rb, 5, none⟩) (fun _ => (rfl : Rb = Rb)) _⟩
def numT (d : Int) : Option J → Int × Bool
 | none => (d, false)
 | some v => (v.nm, !lvOk v.kd v.nm)
theorem numberP_any {O : Nat → Prop} {w : World} {Rb d : Nat} {j : J} {k i : Int} {t : ByteArray} {pk pl : Option Addr} {nk ck nl cl : Nat} {bad : Bool} (hR : RdrIs w Rb (.int .i64 k) (.int .i64 i) (.string t) (.slice pk nk ck) (.slice pl nl cl) bad)
    (hj : isJ O w j [.int .i64 k, .int .i64 i, .string t, .slice pk nk ck, .slice pl nl cl]) (hO : ∀ x, O x → x < w.heap.size) (hok : OkJ (d + 1) j) (s : ByteArray) (z : Int) :
    Calls Tryz.prog 91 #[.pointer (some ⟨Rb, 0, none⟩), .string s, .int .i64 z] w fun e w' => e = .returned (.int .i64 (numT z (lookV j.ks j.ls s)).1) ∧ RdrIs w' Rb (.int .i64 k) (.int .i64 i) (.string t) (.slice pk nk ck) (.slice pl nl cl) (bad || (numT z (lookV j.ks j.ls s)).2) ∧ Keep (OneP Rb) w w' := by
 have hU := under_any hR hj hO hok s
 have HR : Hid (∀ X, Below w.heap.size w X → RdrIs X Rb (.int .i64 k) (.int .i64 i) (.string t) (.slice pk nk ck) (.slice pl nl cl) bad) := fun X hX => (hX.block Rb (objP_lt hR)).trans hR
 have HLT : Hid (Rb < w.heap.size) := objP_lt hR
 clear hR hj hok hO
 generalize lookV j.ks j.ls s = o at hU
 cases o with
 | none =>
  go_enter Tryz.func91, Tryz.ntmps91
  go_wp2_with (go_at_call 122; refine hU.mono ?_; rintro e w1 ⟨he, hb1⟩; replace he : e = _ := he; subst he)
  go_ret
  refine ⟨rfl, ?_, ?_⟩
  · simp only [numT, Bool.or_false]
    exact HR.out _ (belowP hb1 ((Below.refl _ _).alloc (Nat.le_refl _) _))
  · exact Keep.of_below (belowP hb1 ((Below.refl _ _).alloc (Nat.le_refl _) _))
 | some v =>
  go_enter Tryz.func91, Tryz.ntmps91
  go_wp2_with (first
   | (go_at_call 122; refine hU.mono ?_; rintro e w1 ⟨⟨kv, iv, tv, pv, nv, cv, qv, mv, dv, rfl, hv⟩, hb1⟩
      have HV : Hid (v.kd = kv ∧ v.nm = iv) := by obtain ⟨_, _, _, _, _⟩ := v; obtain ⟨rfl, rfl, _⟩ := isJP_parts hv; exact ⟨rfl, rfl⟩
      have hbA : Below w.heap.size w (w1.alloc (.cells #[.int .i64 kv, .int .i64 iv, .string tv, .slice pv nv cv, .slice qv mv dv] 36)) := belowP hb1 ((Below.refl _ _).alloc (Nat.le_refl _) _)
      have hL := level_any (HR.out _ hbA) kv iv tv pv qv nv cv mv dv
      clear hv)
   | (go_at_call 123; refine hL.mono ?_; rintro e w2 ⟨rfl, hr2, hk2⟩))
  go_ret
  simp only [numT, HV.out.1, HV.out.2]
  exact ⟨rfl, hr2, (Keep.of_below hbA).then hk2⟩
theorem user_lv {O : Nat → Prop} {w : World} {l : Lv} {p : Pl} (h : IsL O w l p) (hO : ∀ k, O k → k < w.heap.size) (hz : SzL l) (s : ByteArray) :
    Calls Tryz.prog 64 #[valL l p, .string s] w fun e w' => e = .returned (.int .i64 (usr l s)) ∧ Below w.heap.size w w' := by
 have hb : Below w.heap.size w (w.alloc (.cells (cellsL l p).toArray 60)) := (Below.refl _ _).alloc (Nat.le_refl _) _
 have hf := first_any (h.us.below hO hb) (fun k hk => Nat.lt_of_lt_of_le (hO k hk) hb.size) hz.us s l.users
 have HB : Hid (Below w.heap.size w (w.alloc (.cells (cellsL l p).toArray 60))) := hb
 obtain ⟨ban, kick, invite, redact, state, events, users, us, ty⟩ := l
 obtain ⟨pu, cu, pt, ct⟩ := p
 simp only [valL, cellsL, usr] at hf hb ⊢
 clear h hz hb
 go_enter Tryz.func64, Tryz.ntmps64
 go_wp2_with (go_at_call 95; refine hf.mono ?_; rintro e w1 ⟨rfl, hb1⟩)
 go_ret
 exact ⟨rfl, belowP HB.out hb1⟩
abbrev startL (s : ByteArray) : Lv := ⟨50, 50, 0, 50, 0, 0, 0, [(s, 100)], []⟩
theorem start_lv {w : World} (s : ByteArray) :
    Calls Tryz.prog 65 #[.string s] w fun e w' => (∃ p, e = .returned (valL (startL s) p) ∧ IsL (fun b => w.heap.size ≤ b ∧ b < w'.heap.size) w' (startL s) p) ∧ Below w.heap.size w w' := by
 go_enter Tryz.func65, Tryz.ntmps65
 go_wp2
 obtain ⟨W, hW⟩ : ∃ W, W = ((w.alloc (.cells #[.int .i64 50, .int .i64 50, .int .i64 0, .int .i64 50, .int .i64 0, .int .i64 0, .int .i64 0, .slice (some ⟨w.heap.size + 1, 0, none⟩) 1 1, .slice none 0 0] 60)).alloc (.cells #[.string s, .int .i64 100] 98)) := ⟨_, rfl⟩
 have hB : Below w.heap.size w W := by rw [hW]; exact ((Below.refl _ _).alloc (Nat.le_refl _) _).alloc (by simp) _
 have h0 : W.heap[w.heap.size]? = some (.cells #[.int .i64 50, .int .i64 50, .int .i64 0, .int .i64 50, .int .i64 0, .int .i64 0, .int .i64 0, .slice (some ⟨w.heap.size + 1, 0, none⟩) 1 1, .slice none 0 0] 60 (0, 0)) := by
  rw [hW, Below.heap_alloc _ _ _ (by simp)]
  exact newP _
 have h1 : W.heap[w.heap.size + 1]? = some (.cells #[.string s, .int .i64 100] 98 (0, 0)) := by
  rw [hW]
  have := newP (w := (w.alloc (.cells #[.int .i64 50, .int .i64 50, .int .i64 0, .int .i64 50, .int .i64 0, .int .i64 0, .int .i64 0, .slice (some ⟨w.heap.size + 1, 0, none⟩) 1 1, .slice none 0 0] 60))) (.cells #[.string s, .int .i64 100] 98)
  rw [World.size_alloc] at this
  exact this
 rw [← hW]
 refine bodyPost_ret (resultsP_cell rfl _ _ _ rfl (loadL9 h0)) rfl ?_
 have hlt := objP_lt h1
 exact ⟨⟨⟨some ⟨w.heap.size + 1, 0, none⟩, 1, none, 0⟩, rfl, rdN_flat (l := [(s, 100)]) ⟨by simp, hlt⟩ h1, RdN.nil _ _ _ _ fun _ => rfl⟩, hB⟩
end Go.Proofs.YtimhpglfolbomaaGreat
namespace Go.Proofs.YtimhpglfolbomaaGreat
open Go.RowKit Go.Maps
theorem Tryz.infoNm : (Tryz.prog.info? 98).map (fun i => (i.zero, i.size, i.bytes)) = some (some (.agg #[.string ⟨#[]⟩, .int .i64 0]), 2, 24) := by kernel_rfl
theorem flatN_one : ∀ (l : Nms) (u : Value), u ∈ flatN l → u.oneCell' = true
 | [], _, h => by simp [flatN] at h
 | x :: r, u, h => by
  simp only [flatN, List.mem_cons] at h
  rcases h with rfl | rfl | h
  · rfl
  · rfl
  · exact flatN_one r u h
theorem RdN.cells {O : Nat → Prop} {w : World} {a : Addr} {c : Nat} {l : Nms} (h : RdN O w (some a) c l) : ∀ j u, (flatN l)[j]? = some u → w.cell? (a.add j) = some u := by
 intro j u hu
 by_cases hl : l = []
 · subst hl; simp [flatN] at hu
 obtain ⟨b, o, hp, _, hc⟩ := h.2 hl
 cases hp
 have hj : j < l.length * 2 := by rw [← flatN_len]; exact (List.getElem?_eq_some_iff.1 hu).1
 have hq : j / 2 < l.length := by omega
 have hx := List.getElem?_eq_getElem hq
 have hf := flatN_at l (j / 2) _ hx
 have hcc := hc (j / 2) _ hx
 rw [addP_flat]
 rcases Nat.mod_two_eq_zero_or_one j with e | e
 · rw [show j = j / 2 * 2 by omega] at hu
   rw [hf.1] at hu
   cases hu
   rw [show o + j = o + j / 2 * 2 by omega]
   exact hcc.1
 · rw [show j = j / 2 * 2 + 1 by omega] at hu
   rw [hf.2] at hu
   cases hu
   rw [show o + j = o + j / 2 * 2 + 1 by omega]
   exact hcc.2
theorem wpList_append_rdN {w : World} {ops : Array Oper} {rest : List Oper} {o : Oper} {a : Act} {Q : Exit → Act → World → Prop} (hgd : o.guard = none) (s x : Operand)
    (ho : o.op = .call { callee := .builtin .append, args := #[s, x], argTypes := #[58, 58] })
    (base : Nat) (v : Value) (L : Nms) (hs : a.eval s = v) (hown : w.ownsRow base 98 2 v L.length (flatN L)) {O : Nat → Prop} {p : Option Addr} {c : Nat} {l : Nms} (hrd : RdN O w p c l) (hx : a.eval x = .slice p l.length c)
    (hlen : L.length ≤ 100000000) (hlen2 : l.length ≤ 100000000) (hbase : base ≤ w.heap.size)
    (h : ∀ v' w', w'.ownsRow base 98 2 v' (L ++ l).length (flatN (L ++ l)) → w.grownBy w' v.ownBlock → wpList Tryz.prog ops Q rest (a.put o.dst v') w') : wpList Tryz.prog ops Q (o :: rest) a w := by
 obtain ⟨i0, hi, hz0, hz1, hz2⟩ := info_parts Tryz.infoNm
 cases p with
 | none =>
  obtain rfl : c = 0 := hrd.1.2 rfl
  have hl0 : l = [] := List.eq_nil_of_length_eq_zero (by have := hrd.1.1; omega)
  subst hl0
  refine wpList_append_own_none hgd s x 58 ho base 98 i0 2 Tryz.underlying58 hi v L.length (flatN L) hs hown hx (h v w ?_ ⟨rfl, rfl, rfl, Nat.le_refl _, fun _ _ _ => rfl⟩)
  rw [List.append_nil]; exact hown
 | some ad =>
  refine wpList_append_own w hgd s x 58 ho base 98 i0 _ 2 24 Tryz.underlying58 hi hz0 hz1 hz2 rfl (by decide) v L.length (flatN L) hs hown ad l.length c (flatN l) hx (flatN_len l) hrd.cells (flatN_one l) (by unfold maxLen; omega) (by omega) hbase ?_
  intro v' w' hown' hgrow _
  exact h v' w' (by rw [List.length_append, flatN_append]; exact hown') hgrow
end Go.Proofs.YtimhpglfolbomaaGreat
namespace Go.Proofs.YtimhpglfolbomaaGreat
open Go.RowKit Go.Maps Go.Shelf
section
attribute [local go_sem] Oper.semAt_some
theorem own_rdN {w : World} {B : Nat} {v : Value} {l : Nms} (h : w.ownsRow B 98 2 v l.length (flatN l)) : ∃ p c, v = .slice p l.length c ∧ RdN (fun k => B ≤ k ∧ k < w.heap.size) w p c l := by
 rcases h.2 with ⟨rfl, hn⟩ | ⟨g, cap, cur, rfl, hb, hg, hnc, _, hcs, ht⟩
 · obtain rfl : l = [] := List.eq_nil_of_length_eq_zero hn
   exact ⟨none, 0, rfl, RdN.nil _ _ _ _ fun _ => rfl⟩
 · refine ⟨some ⟨g, 0, none⟩, cap, rfl, rdN_of (cur := cur.toList) ⟨hb, objP_lt hg⟩ (by simpa using hg) hnc fun j hj => ?_⟩
   rw [← ht, List.getElem?_take, Nat.zero_add]
   rw [if_pos (by rw [flatN_len] at hj; exact hj)]
end
end Go.Proofs.YtimhpglfolbomaaGreat
