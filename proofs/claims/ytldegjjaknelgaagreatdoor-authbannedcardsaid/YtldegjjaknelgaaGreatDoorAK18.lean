/-
  Whether a content may be, and names: by contracts.
-/
import Derived.Test.YtldegjjaknelgaaGreatDoorAK17
set_option maxRecDepth 100000
set_option maxHeartbeats 16000000
namespace Go.Proofs.YtldegjjaknelgaaGreatDoor
open Go.RowKit
theorem sz_list {d : Nat} {c : J} (h : szJ (d + 1) c = true) : szJ (d + 1) (.mk 4 0 nix [] [c]) = true:=by
 have:=sz_less d (d + 1) c (by omega) h
 unfold szJ
 rw [show List.all [c] (szJ d) = true by rw [List.all_cons,this];rfl]
 rfl
theorem filled_any {w : World} {O : Nat → Prop} {j : J} {k i : Int} {t : ByteArray} {pk pl : Option Addr} {nk ck nl cl : Nat} (hO : ∀ x, O x → x < w.heap.size) (hsz : szJ 12 j = true)
    (hj : isJ O w j [.int .i64 k,.int .i64 i,.string t,.slice pk nk ck,.slice pl nl cl]) :
    Calls Tryz.prog 105 #[.agg #[.int .i64 k,.int .i64 i,.string t,.slice pk nk ck,.slice pl nl cl]] w fun x w' => x = .returned (.bool (filledE j)) ∧ Below w.heap.size w w':=by
 obtain ⟨W3,hW3⟩ : ∃ W3,W3 = ((w.alloc (.cells #[.int .i64 k,.int .i64 i,.string t,.slice pk nk ck,.slice pl nl cl] 25)).alloc (.cells #[.int .i64 k,.int .i64 i,.string t,.slice pk nk ck,.slice pl nl cl] 25)).alloc (.cells #[.int .i64 4,.int .i64 0,.string ⟨#[]⟩,.slice none 0 0,.slice (some ⟨w.heap.size + 1,0,none⟩) 1 1] 25):=⟨_,rfl⟩
 have hbw : Below w.heap.size w W3:=by rw [hW3];exact (((Below.refl _ _).alloc (Nat.le_refl _) _).alloc (by simp) _).alloc (by simp;omega) _
 have hs3 : W3.heap.size = w.heap.size + 3:=by rw [hW3];simp
 have hm : W3.heap[w.heap.size + 1]? = some (.cells #[.int .i64 k,.int .i64 i,.string t,.slice pk nk ck,.slice pl nl cl] 25 (0,0)):=by
  rw [hW3,Below.heap_alloc _ _ _ (by simp)];exact two_at _ _
 have hj3 : isJ (fun x => O x ∨ x = w.heap.size + 1) W3 (.mk 4 0 nix [] [j]) [.int .i64 4,.int .i64 0,.string nix,.slice none 0 0,.slice (some ⟨w.heap.size + 1,0,none⟩) 1 1]:=by
  unfold isJ
  refine ⟨none,0,some ⟨w.heap.size + 1,0,none⟩,1,rfl,RdK.nil _ _,Nat.le_refl _,?_⟩
  unfold isJs
  refine ⟨⟨_,0,_,rfl,.inr rfl,fun i v hi => ?_,hj.carry fun x hx => ⟨.inl hx,hbw.block x (hO x hx)⟩⟩,by unfold isJs;trivial⟩
  rw [Nat.zero_mul,Nat.add_zero,Nat.zero_add]
  exact cell_row (cur:=[_,_,_,_,_]) hm i v hi
 have hG:=good_any (w:=W3) (fun x hx => by rw [hs3];rcases hx with hx | hx;have:=hO x hx;omega;omega) (sz_list hsz) hj3
 have HF : Hid (filledE j = (decide (k = 5) && goodJ 12 (.mk 4 0 nix [] [j]))):=by
  show _ = _
  unfold filledE
  cases j with
  | mk k' i' t' ks l =>
   unfold isJ at hj
   obtain ⟨_,_,_,_,e,_⟩:=hj
   cases e
   rfl
 rw [hW3] at hG hbw
 clear hm hj3 hs3 hW3
 by_cases hk : k = 5
 · subst hk
   go_enter Tryz.func105,Tryz.ntmps105
   go_wp2_with (go_at_call 110;refine hG.mono ?_;rintro x w2 ⟨rfl,hb2⟩)
   go_ret
   exact ⟨ret_bool (by rw [HF.out];rfl),below_in hbw hb2⟩
 · have hk' : decide (k = 5) = false:=decide_eq_false hk
   go_enter Tryz.func105,Tryz.ntmps105
   go_wp2
   go_ret
   exact ⟨ret_bool (by rw [HF.out,hk'];rfl),hbw⟩
theorem named_any {O : Nat → Prop} {ks : List ByteArray} {p : Option Addr} {c : Nat} {w : World} (m : Nat) (hrd : RdK O w p c ks) (hO : ∀ k, O k → k < w.heap.size) (hl : ks.length ≤ 100000) (hkz : ∀ k ∈ ks, k.size ≤ 1000000000) :
    Calls Tryz.prog 106 #[.slice p ks.length c,.int .i64 m] w fun x w' => x = .returned (.bool (namedE m ks)) ∧ Below w.heap.size w w':=by
 have hon:=once_any hrd hO hl hkz
 obtain ⟨n,hn⟩ : ∃ n,ks.length = n:=⟨_,rfl⟩
 have HN : Hid (ks.length = n):=hn
 have hcc:=hrd.1
 rw [hn] at hl hcc hon ⊢
 clear hn
 by_cases hlong : (m : Int) < (n : Int)
 · have HF : Hid (namedE m ks = false) := by
     show _ = _
     unfold namedE
     rw [HN.out,decide_eq_false (by omega)];rfl
   clear hon
   go_enter Tryz.func106,Tryz.ntmps106
   go_wp2
   go_ret
   exact ⟨ret_bool HF.out.symm,Below.refl _ _⟩
 cases hd : noKeyTwice ks with
 | false =>
  have HF : Hid (namedE m ks = false):=by
   show _ = _
   unfold namedE
   rw [hd];simp
  rw [hd] at hon
  go_enter Tryz.func106,Tryz.ntmps106
  go_wp2_with (go_at_call 132;refine hon.mono ?_;rintro x w1 ⟨rfl,hb1⟩)
  go_ret
  exact ⟨ret_bool HF.out.symm,hb1⟩
 | true =>
  have HE : Hid (namedE m ks = ks.all Id.evt):=by
   show _ = _
   unfold namedE
   rw [hd,HN.out,decide_eq_true (by omega)];rfl
  rw [hd] at hon
  clear hd
  go_enter Tryz.func106,Tryz.ntmps106
  go_wp2_with (go_at_call 132;refine hon.mono ?_;rintro x w1 ⟨rfl,hb1⟩)
  go_loopw [18] (fun i wr => ∃ k : Nat,i = .int .i64 k ∧ k ≤ n ∧ Hid (∀ j,j < k → Id.evt (ks.getD j nix) = true) ∧ Below w.heap.size w wr) (fun i _ => n - (intOf i).toNat)
  case atStart => exact ⟨0,rfl,Nat.zero_le _,fun j hj => absurd hj (by omega),hb1⟩
  case round =>
   obtain ⟨k,rfl,hk,HG,hb⟩:=hrel
   by_cases hlt : k < n
   · have hki : (k : Int) < (n : Int):=by omega
     have hkl : k < ks.length:=by rw [HN.out];exact hlt
     obtain ⟨a,hpa,hOa,hca⟩:=hrd.2 k hkl
     subst hpa
     have hcell : wr.cell? (a.add k) = some (.string (ks.getD k nix)):=(World.cell?_of_block (by rw [add_block];exact hb.block _ (hO _ hOa))).trans hca
     have hmem : ks.getD k nix ∈ ks:=by
      rw [List.getD_eq_getElem?_getD,List.getElem?_eq_getElem hkl];exact List.getElem_mem _
     have hus : (ks.getD k nix).size ≤ 1000000000:=hkz _ hmem
     have HMEM : Hid (ks.getD k nix ∈ ks):=hmem
     obtain ⟨u,hu⟩ : ∃ u,ks.getD k nix = u:=⟨_,rfl⟩
     have HU : Hid (ks.getD k nix = u):=hu
     rw [hu] at hcell hus HMEM
     clear hu hca hmem hkl
     have hE:=Id.event_any u wr (by omega)
     cases he : Id.evt u with
     | true =>
      have HEV : Hid (Id.evt u = true):=he
      rw [he] at hE
      clear he
      go_wp2_with (go_at_call 133;refine hE.mono ?_;rintro x w2 ⟨rfl,hb2⟩)
      go_roundw
      case rel => exact ⟨k + 1,by go_num,hlt,fun j hj => (Nat.lt_succ_iff_lt_or_eq.1 hj).elim (HG.out j) (fun e => by rw [e,HU.out];exact HEV.out),below_cat hb hb.size hb2⟩
      case measure => simp [intOf];omega
     | false =>
      have HF : Hid (namedE m ks = false):=by
       show _ = _
       rw [HE.out,List.all_eq_false]
       exact ⟨u,HMEM.out,by rw [he];decide⟩
      rw [he] at hE
      go_wp2_with (go_at_call 133;refine hE.mono ?_;rintro x w2 ⟨rfl,hb2⟩)
      go_ret
      exact ⟨ret_bool HF.out.symm,below_cat hb hb.size hb2⟩
   · obtain rfl : k = n:=by omega
     have HT : Hid (namedE m ks = true):=by
      show _ = _
      rw [HE.out,List.all_eq_true]
      intro x hx
      obtain ⟨j,hj,rfl⟩:=List.getElem_of_mem hx
      have:=HG.out j (by rw [← HN.out];exact hj)
      rw [List.getD_eq_getElem?_getD,List.getElem?_eq_getElem hj] at this
      exact this
     go_wp2
     go_ret
     exact ⟨ret_bool HT.out.symm,hb⟩
end Go.Proofs.YtldegjjaknelgaaGreatDoor
