/-
  Linear where all parents are things: the walk.
-/
import Derived.Test.YtmkppbcngpgkdabOLinW
namespace Go.Proofs.Ytmkppbcngpgkdab
open Go.RowKit Go.Maps

theorem St.make {w1 : World} {B s wb : Nat} {rp : Option Addr} {rc : Nat} {R : List Int} {wr w' : World} {v : Value} {W : List Int} {h : List Nat} (S : St w1 B s wb rp rc R wr nilS v [] W h) (n : Nat) (hn : n ≤ 1000) (hw : w' = wr.alloc (.cells ((List.replicate n (0 : Int)).map (Value.int .i64)).toArray 3)) :
    St w1 B s wb rp rc R w' (.slice (some ⟨wr.heap.size, 0, none⟩) 0 n) v [] W h := by
  subst hw
  have hs := S.keep.size
  have hsz := S.size
  have hq := obj_lt S.qu.obj
  have S1 := S.queue ((Qk.refl S.qu).still ((Keep.refl _ wr).alloc (.cells ((List.replicate n (0 : Int)).map (Value.int .i64)).toArray 3)))
  refine ⟨S1.size, S1.bl, S1.wl, S1.keep, S1.ik, S1.qu, S1.vl, ⟨rfl, .inr ⟨wr.heap.size, n, _, rfl, by omega, heap_alloc_new _ _, Nat.zero_le _, by unfold maxLen; omega, by simp, by simp [zs]⟩⟩, ?_, ?_⟩
  · simp only [Value.ownBlock, ne_eq, Option.some.injEq]
    omega
  · intro k hk e
    simp only [Value.ownBlock, Option.some.injEq] at hk
    have := (S.qu.row.lt k e).2
    omega
theorem St.start {w1 w2 : World} {B s wb n : Nat} {rp : Option Addr} {rc : Nat} {R : List Int} {W : List Int} (hs : w1.heap.size = s) (hB : B ≤ wb) (hwb : wb < s) (hik : Ik w1 wb W) (hn : R.length = n) (hr : RdI (· < B) w1 rp rc R) (hw2 : w2 = w1.alloc (.cells #[.slice rp n rc, nilS] 43)) :
    St w1 B s wb rp rc R w2 nilS nilS [] W [] := by
  subst hw2
  have hk : Keep (fun k => k = wb ∨ s ≤ k) w1 (w1.alloc (.cells #[.slice rp n rc, nilS] 43)) := (Keep.refl _ w1).alloc _
  have hb : Below w1.heap.size w1 (w1.alloc (.cells #[.slice rp n rc, nilS] 43)) := (Below.refl _ _).alloc (Nat.le_refl _) _
  refine ⟨hs, hB, hwb, hk, hik.same (hb.block wb (by omega)), ⟨?_, World.ownsRow_nil _ _ _ _, by simp [Value.ownBlock], hr.same (Same.of_below hb fun k hk => by omega), by omega, by simp⟩, by simp [Value.ownBlock], World.ownsRow_nil _ _ _ _, by simp [Value.ownBlock], by simp [Value.ownBlock]⟩
  rw [← hs, hn]
  exact heap_alloc_new _ _
theorem kids_at (Q : List (List Nat)) (n i : Nat) (hi : i < n) : ((List.range n).map fun p => zs (kidR Q n p)).getD i [] = zs (kidR Q n i) := by
  rw [getD_in (by simp; exact hi)]
  simp
def lenV : Value → Nat
  | .slice _ n _ => n
  | _ => 0
theorem lin_out {Q : List (List Nat)} {R : List Int} {T : List Nat} {W : List Int} (L : Lin Q R T W []) (h : ¬ T.length < Q.length) : lin Q R = some T := by rw [L.stop, if_neg h]
theorem lin_none {Q : List (List Nat)} {R : List Int} {T : List Nat} {W : List Int} (L : Lin Q R T W []) (h : T.length < Q.length) : lin Q R = none := by rw [L.stop, if_pos h]

set_option maxRecDepth 100000 in
set_option maxHeartbeats 16000000 in
theorem linear_ok (Q : List (List Nat)) (R : List Int) (p rp : Option Addr) (c rc : Nat) (w : World) (he : R.length = Q.length) (hins : insB Q.length (Q.map zs) = true) (r : RdR (· < w.heap.size) w p c (Q.map zs)) (rr : RdI (· < w.heap.size) w rp rc R) (hQ : Q.length ≤ 900) (hl : ∀ i, (par Q i).length ≤ 1000) (hin : ∀ i, ∀ x ∈ par Q i, x < Q.length) :
    Calls Try.prog 12 #[.slice p Q.length c, .slice rp R.length rc] w (LinP (lin Q R) w) := by
  have hi := inside_any (Q.map zs) p c w r (by simp; omega) (fun x hx => by
    obtain ⟨q, hq, rfl⟩ := List.mem_map.1 hx
    obtain ⟨j, hj, rfl⟩ := List.getElem_of_mem hq
    rw [zs_len]
    have := hl j
    unfold par at this
    rw [getD_in hj] at this
    exact this)
  have hed := edges_any Q p c w r (by omega) hl hin
  rw [List.length_map, hins] at hi
  have HR : Hid (R.length = Q.length) := he
  have HK : Hid (∀ p, (kidR Q Q.length p).length ≤ 1000000) := fun p => by
    have := kidR_len (p := p) hl Q.length
    have : Q.length * 1000 ≤ 900 * 1000 := Nat.mul_le_mul_right _ hQ
    omega
  have HRR : Hid (RdI (· < w.heap.size) w rp rc R) := rr
  have HLL : Hid (∀ i, (par Q i).length ≤ 1000) := hl
  have hRn : R.length ≤ 1000 := by omega
  clear r rr hl hin hins
  rw [he]
  obtain ⟨n, hn⟩ : ∃ n, Q.length = n := ⟨_, rfl⟩
  have HN : Hid (Q.length = n) := hn
  rw [hn] at hi hed hQ he HR HK ⊢
  obtain ⟨B, hB⟩ : ∃ B, w.heap.size = B := ⟨_, rfl⟩
  have HB : Hid (w.heap.size = B) := hB
  rw [hB] at HRR
  clear hn hB
  go_enter Try.func12, Try.ntmps12
  go_wp2_with (first
    | (go_at_call 15; refine hi.mono ?_; rintro e w' ⟨rfl, rfl⟩)
    | (go_at_call 16; refine hed.mono ?_; rintro e w1 ⟨wb, cb, he1, h1, h2, h3, h4, h5⟩; rw [HN.out] at he1 h4 h5; have H5 : Hid _ := h5; have H3 : Hid _ := h3; have H4 : Hid _ := h4; clear h5 h3 h4 hed; subst he1))
  obtain ⟨s, hs⟩ : ∃ s, w1.heap.size = s := ⟨_, rfl⟩
  have HS0 : Hid (St w1 B s wb rp rc R (w1.alloc (.cells #[.slice rp n rc, nilS] 43)) nilS nilS [] (wl Q n n) []) :=
    St.start hs (by rw [← HB.out]; exact h1) (by rw [← hs]; exact h2) H4.out HR.out (HRR.out.same (Same.of_below H3.out fun k hk => by rw [HB.out]; exact hk)) rfl
  have HL0 : Hid (Loa Q R 0 []) := Loa.nil Q R
  have HKD : Hid (∀ wx i, Keep (fun k => k = wb ∨ s ≤ k) w1 wx → i < n → ∃ p1 c1, wx.cell? ⟨cb, i, none⟩ = some (.slice p1 (kidR Q n i).length c1) ∧ ∀ wy, Keep (fun k => k = wb ∨ s ≤ k) w1 wy → RdI (fun k => B ≤ k ∧ k ≠ wb ∧ k < s) wy p1 c1 (zs (kidR Q n i))) := by
    have hS : ∀ wx, Keep (fun k => k = wb ∨ s ≤ k) w1 wx → Same (fun k => w.heap.size ≤ k ∧ k ≠ wb ∧ k < w1.heap.size) w1 wx := fun wx hx => Same.of_keep hx fun k hk => ⟨hk.2.2, by rintro (e | e) <;> omega⟩
    intro wx i hx hi
    obtain ⟨ad, p1, c1, e, hO, hcl, hr⟩ := RdR.at H5.out i (by simp; exact hi)
    cases e
    rw [kids_at Q n i hi] at hcl hr
    rw [zs_len, add_flat, Nat.zero_add] at hcl
    refine ⟨p1, c1, (World.cell?_of_block ((hS wx hx) cb hO)).trans hcl, fun wy hy => hr.carry (hS wy hy) fun k hk => ⟨by rw [← HB.out]; exact hk.1, hk.2.1, by rw [← hs]; exact hk.2.2⟩⟩
  have HBw : Hid (∀ wx, Keep (fun k => k = wb ∨ s ≤ k) w1 wx → Below w.heap.size w wx) := fun wx hx =>
    H3.out.trans (hx.below (by omega) fun k hk => by rintro (e | e) <;> omega)
  rw [hs]
  have HS : Hid (w1.heap.size = s) := hs
  clear hs H3 H4 H5 HRR
  go_loopw [35] (fun i wr => ∃ (k : Nat) (v : Value) (h : List Nat), k ≤ n ∧ i = .int .i64 k ∧ Hid (St w1 B s wb rp rc R wr nilS v [] (wl Q n n) h) ∧ Hid (Loa Q R k h)) (fun i _ => n - (intOf i).toNat)
  case atStart => exact ⟨0, _, _, Nat.zero_le _, rfl, HS0, HL0⟩
  case round =>
    obtain ⟨k, v, h, hk, rfl, HSt, HLo⟩ := hrel
    clear HS0 HL0
    by_cases hlt : k < n
    · have hck := HSt.out.ik.cell k (by rw [wl_len]; exact hlt)
      rw [wl_at Q n k hlt] at hck
      have hhl := HLo.out.hlen
      by_cases hz : (par Q k).length = 0
      · rw [hz] at hck
        have hput := put_any HSt.out.qu HLo.out.heap k (by omega) (by omega) hRn
        have HY : Hid (∀ h', Hp R h' → h'.Perm (h ++ [k]) → Loa Q R (k + 1) h') := fun h' a b => HLo.out.yes hz a b
        clear HLo hz
        go_wp2_with (first
          | (go_at_call 17; refine hput.mono ?_; rintro e w2 ⟨rfl, v2, h2', hq2, hh2, hp2⟩; have HSt2 : Hid _ := HSt.out.queue hq2; have HL2 : Hid _ := HY.out h2' hh2 hp2; clear hq2 hh2 hp2))
        go_roundw
        case rel => exact ⟨k + 1, v2, h2', by omega, by go_num, HSt2, HL2⟩
        case measure => simp [intOf]; omega
      · have hz' : (((par Q k).length : Int) == 0) = false := by rw [beq_eq_false_iff_ne]; omega
        have HL2 : Hid (Loa Q R (k + 1) h) := HLo.out.no hz
        clear HLo
        generalize (par Q k).length = y at *
        go_wp2
        go_roundw
        case rel => exact ⟨k + 1, v, h, by omega, by go_num, HSt, HL2⟩
        case measure => simp [intOf]; omega
    · obtain rfl : k = n := by omega
      have HLi : Hid (Lin Q R [] (wl Q k k) h) := by
        have := HLo.out
        rw [← HN.out] at this ⊢
        exact this.go
      clear HLo
      go_wp2_with (first
        | (refine wpList_ints rfl _ _ rfl 0 k (Nat.zero_le _) (by omega) rfl rfl ?_; intro w2 hw2; have HS2 : Hid _ := HSt.out.make k (by omega) hw2.out; clear hw2))
      clear HSt hlt hk
      have hst : St w1 B s wb rp rc R w2 _ v [] (wl Q k k) h := HS2.out
      have HS3 : Hid _ := hst
      clear hst HS2
      generalize Value.slice (some ⟨wr.heap.size, 0, none⟩) 0 k = tv0 at *
      go_loopw [11] (fun tv wx => ∃ (T : List Nat) (W : List Int) (v : Value) (h : List Nat), Hid (St w1 B s wb rp rc R wx tv v T W h) ∧ Hid (Lin Q R T W h)) (fun tv _ => k - lenV tv)
      case atStart => exact ⟨[], _, v, h, HS3, HLi⟩
      case round =>
        clear HS3 HLi
        obtain ⟨T, W, v, h, HSt, HLi⟩ := hrel
        have htl := HLi.out.tlen
        rw [HN.out] at htl
        have hhl := HLi.out.hlen
        rw [HN.out] at hhl
        have hlen := qlen_any HSt.out.qu
        obtain ⟨q, cq, htv, _⟩ := own_rd HSt.out.own
        rw [zs_len] at htv
        subst htv
        cases hh : h with
        | nil =>
          subst hh
          by_cases hT : T.length < k
          · have HF : Hid (lin Q R = none) := lin_none HLi.out (by rw [HN.out]; exact hT)
            have HBl : Hid (Below w.heap.size w wr) := HBw.out _ HSt.out.keep
            go_wp2_with (first
              | (go_at_call 18; refine hlen.mono ?_; rintro e w' ⟨rfl, rfl⟩))
            go_ret2
            exact ⟨_, by rw [HF.out]; rfl, by rw [HF.out]; exact World.ownsRow_nil _ _ _ _, HBl.out⟩
          · have HF : Hid (lin Q R = some T) := lin_out HLi.out (by rw [HN.out]; exact hT)
            have HBl : Hid (Below w.heap.size w wr) := HBw.out _ HSt.out.keep
            have HO : Hid (wr.ownsRow w.heap.size 3 1 (.slice q T.length cq) (zs T).length ((zs T).map (Value.int .i64))) := own_le HSt.out.own (by rw [HB.out]; have := HSt.out.bl; have := HSt.out.wl; omega)
            go_wp2_with (first
              | (go_at_call 18; refine hlen.mono ?_; rintro e w' ⟨rfl, rfl⟩))
            go_ret2
            exact ⟨_, by rw [HF.out]; rfl, by rw [HF.out]; exact HO.out, HBl.out⟩
        | cons i0 h0 =>
          have hp : 0 < h.length := by rw [hh]; simp
          clear hh
          have htk := take_any HSt.out.qu HLi.out.heap hp (by omega) hRn
          have hi0 := ((HLi.out.mem _).1 (getD_inm (d := 0) hp)).1
          rw [HN.out] at hi0
          have HT : Hid (∀ h', Hp R h' → (h.getD 0 0 :: h').Perm h → Lon Q R T (h.getD 0 0) 0 W h' ∧ T.length < Q.length) := fun h' a b => HLi.out.take hp a b
          unfold TakeP at htk
          generalize h.getD 0 0 = i at *
          generalize h.length = hl at *
          have tok1 : True := trivial
          go_wp2_with (first
            | (go_at_call 18; refine hlen.mono ?_; rintro e w' ⟨rfl, rfl⟩)
            | (go_at_call 19; refine htk.mono ?_; rintro e w3 ⟨rfl, v3, h3, hq3, hh3, hp3⟩; obtain ⟨hl3, hT3⟩ := HT.out h3 hh3 hp3; have HS4 : Hid _ := HSt.out.queue hq3; have HL4 : Hid _ := hl3; rw [HN.out] at hT3; clear hq3 hh3 hp3 hl3)
            | (at_builtin; have _t := tok1; refine wpList_push rfl (.tmp 54) (.tmp 56) 24 3 (.int .i64 0) 8 rfl Try.underlying24 Try.info3 rfl (by decide) int_one s _ (zs T) rfl ?a0 _ (i : Int) rfl ?a1 ?a2 ?a3 ?_; clear tok1))
          case a0 => exact HS4.out.own.alloc _
          case a1 => exact cell_row (cur := [_]) (heap_alloc_new _ _) 0 _ rfl
          case a2 => rw [zs_len]; omega
          case a3 => have := HS4.out.keep.size; have := HS4.out.size; simp; omega
          intro tv' w5 ho0 hg5 hl5
          have ho5 : w5.ownsRow s 3 1 tv' (zs T ++ [(i : Int)]).length ((zs T ++ [(i : Int)]).map (Value.int .i64)) := by rw [List.length_append, List.map_append]; exact ho0
          have HS5 : Hid (St w1 B s wb rp rc R w5 tv' v3 (T ++ [i]) W h3) := by
            refine HS4.out.told ho5 (((Keep.refl _ w3).alloc (.cells #[.int .i64 i] 3)).trans (Keep.of_grown (S := ((Value.slice q T.length cq).ownBlock = some ·)) hg5 fun k _ e => e) fun _ _ h => h) ?_
            refine hl5.imp id fun e k hk => ?_
            rw [e] at hk
            cases hk
            simp
          obtain ⟨q5, c5, htv5, _⟩ := own_rd ho5
          rw [show (zs T ++ [(i : Int)]).length = T.length + 1 by simp [zs_len]] at htv5
          subst htv5
          clear ho0 ho5 hg5 hl5 HS4
          obtain ⟨p1, c1, hkc, hkr⟩ := HKD.out w5 i HS5.out.keep hi0
          have HKR : Hid _ := hkr
          have hkl := HK.out i
          clear hkr
          obtain ⟨m, hm⟩ : ∃ m, (kidR Q k i).length = m := ⟨_, rfl⟩
          have HM : Hid ((kidR Q k i).length = m) := hm
          rw [hm] at hkc hkl
          clear hm
          go_wp2
          go_loopw [63] (fun jv wx => ∃ (j : Nat) (W : List Int) (v : Value) (h : List Nat), j ≤ m ∧ jv = .int .i64 j ∧ Hid (St w1 B s wb rp rc R wx (.slice q5 (T.length + 1) c5) v (T ++ [i]) W h) ∧ Hid (Lon Q R T i j W h)) (fun jv _ => m - (intOf jv).toNat)
          case atStart => exact ⟨0, W, v3, h3, Nat.zero_le _, rfl, HS5, HL4⟩
          case round =>
            clear HS5 HL4 hkc
            obtain ⟨j, W, v, h, hj, rfl, HSt, HLo⟩ := hrel
            by_cases hjt : j < m
            · have hjm : j < (kidR Q Q.length i).length := by rw [HN.out, HM.out]; exact hjt
              have hjm' : j < (kidR Q k i).length := by rw [HM.out]; exact hjt
              obtain ⟨ad, rfl, _, hcj⟩ := (HKR.out _ HSt.out.keep).at j 0 (by rw [zs_len]; exact hjm')
              rw [zs_getD] at hcj
              obtain ⟨hcl, hc1, hcT⟩ := HLo.out.kid hjm
              have hwt := HLo.out.wait _ hcl
              have hNo : Hid (_ → _) := HLo.out.no hjm
              have hYes : Hid (∀ h', _) := fun h' => HLo.out.yes (h' := h') hjm
              have hhl2 := HLo.out.hlen
              rw [HN.out] at hcl hc1 hcT hwt hNo hYes hhl2
              generalize (kidR Q k i).getD j 0 = c at *
              have hms : miss Q T c ≤ 1000 := Nat.le_trans List.countP_le_length (HLL.out c)
              obtain ⟨y, hy⟩ : ∃ y : Nat, W.getD c 0 = (y : Int) + 1 := ⟨(W.getD c 0 - 1).toNat, by omega⟩
              have hy2 : y ≤ 1000 := by omega
              have hwl := HSt.out.ik.cell c (by rw [HLo.out.wlen, HN.out]; exact hcl)
              have hwf := HSt.out.ik.fz c
              rw [hy] at hwl hNo hYes
              have e1 : (y : Int) + 1 - 1 = (y : Int) := by omega
              rw [e1] at hNo hYes
              have HS6 : Hid _ := HSt.out.wait c (y : Int)
              clear hwt hc1 hcT hy hms
              by_cases hy0 : y = 0
              · subst hy0
                have hput := put_any HS6.out.qu HLo.out.heap c (by omega) (by omega) hRn
                clear hNo HLo
                go_wp2_with (first
                  | (go_at_call 17; refine hput.mono ?_; rintro e w7 ⟨rfl, v7, h7, hq7, hh7, hp7⟩; have HS7 : Hid _ := HS6.out.queue hq7; have HL7 : Hid _ := hYes.out h7 rfl hh7 hp7; clear hq7 hh7 hp7))
                go_roundw
                case rel => exact ⟨j + 1, _, v7, h7, by omega, by go_num, HS7, HL7⟩
                case measure => simp [intOf]; omega
              · have hy1 : ((y : Int) == 0) = false := by rw [beq_eq_false_iff_ne]; omega
                have HL7 : Hid _ := hNo.out (by omega)
                clear hYes HLo hNo
                go_wp2
                go_roundw
                case rel => exact ⟨j + 1, _, v, h, by omega, by go_num, HS6, HL7⟩
                case measure => simp [intOf]; omega
            · obtain rfl : j = m := by omega
              have HLd : Hid (Lin Q R (T ++ [i]) W h) := by
                have := HLo.out
                rw [← HM.out, ← HN.out] at this
                exact this.done
              go_wp2
              go_roundw
              case rel => exact ⟨_, W, v, h, HSt, HLd⟩
              case measure => simp [lenV]; omega
end Go.Proofs.Ytmkppbcngpgkdab
