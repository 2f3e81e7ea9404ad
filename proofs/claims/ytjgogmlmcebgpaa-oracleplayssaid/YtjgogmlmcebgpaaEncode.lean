/-
  base.Encode, by its contract: whatever bytes it reads, it tells their letters.
-/
import Derived.Test.YtjgogmlmcebgpaaRead
import Derived.Laws.CopyOwn
import Derived.Laws.BytesArg
namespace Go.Proofs.Ytjgogmlmcebgpaa
open Go.RowKit


set_option maxHeartbeats 1000000 in
theorem encode_any (zs : List Int) (p : Option Addr) (c : Nat) (w : World) (hz : zs.length ≤ 1000000) (hrd : Rd w.heap.size w p c zs) :
    Calls Try.prog 33 #[.slice p zs.length c] w fun e w' => e = .returned (.string (strOfNums (enc zs))) ∧ Below w.heap.size w w' := by
  obtain ⟨i0, hi, hz0, hz1, hz2⟩ := info_parts Try.info5
  have hsz := siz_le zs.length
  have hs0 : Hid (((enc zs).length : Int) = siz zs.length) := enc_length zs
  have hs1 : 0 ≤ siz zs.length := by rw [← hs0.out]; omega
  go_enter Try.func33, Try.ntmps33
  go_wp2_with (first
    | (go_at_call 36; refine (size_any _ _ (by omega)).mono ?_; rintro e w' ⟨rfl, rfl⟩)
    | (at_make; refine wpList_make_own _ rfl _ _ 37 rfl w.heap.size 5 i0 (.int .u8 0) 1 Try.underlying37 hi hz0 hz1 _ _ _ (siz zs.length).toNat rfl rfl (by omega) ?b2 ?b3 (Nat.le_refl _) ?_))
  case b2 => rw [hz2]; omega
  case b3 => unfold maxLen; omega
  intro w1 hown hgrow
  have hb1 : Below w.heap.size w w1 := (Below.refl _ _).grown hgrow (Nat.le_refl _) (by simp)
  go_wp2
  go_loopw [0, 3] (fun b v wr => ∃ (rs done : List Int) (q : Option Addr) (cq : Nat), b = .slice q rs.length cq ∧ Rd w.heap.size w q cq rs ∧ rs.length ≤ zs.length ∧ enc zs = done ++ enc rs ∧
      wr.ownsRow w.heap.size 5 1 v done.length (done.map (Value.int .u8)) ∧ Below w.heap.size w wr)
    (fun b _ _ => lenOf b)
  case atStart => exact ⟨zs, [], p, c, rfl, hrd, Nat.le_refl _, rfl, hown, hb1⟩
  case round =>
    clear hown hb1 hgrow
    obtain ⟨rs, done, q, cq, rfl, hq, hle, henc, hown, hb⟩ := hrel
    have HE : Hid (enc zs = done ++ enc rs) := henc
    have hdl : done.length ≤ 2 * zs.length := by have := enc_le zs; rw [henc] at this; simp at this; omega
    clear henc
    by_cases hlt : 0 < rs.length
    · obtain ⟨m, hm⟩ : ∃ m, m = min rs.length 3 := ⟨_, rfl⟩
      have hm1 : 1 ≤ m := by omega
      have hm3 : m ≤ 3 := by omega
      have hmr : m ≤ rs.length := by omega
      obtain ⟨q', hcut, hq'⟩ := hq.cut m hmr
      obtain ⟨cs, hcs⟩ : ∃ cs, cs = (rs.take 3).map (Value.int .u8) := ⟨_, rfl⟩
      have hcl : cs.length = m := by rw [hcs]; simp; omega
      obtain ⟨a0, ha0⟩ : ∃ a, rs.getD 0 0 = a := ⟨_, rfl⟩
      obtain ⟨a1, ha1⟩ : ∃ a, rs.getD 1 0 = a := ⟨_, rfl⟩
      obtain ⟨a2, ha2⟩ : ∃ a, rs.getD 2 0 = a := ⟨_, rfl⟩
      have b0 : 0 ≤ a0 ∧ a0 ≤ 255 := ha0 ▸ getD_bd hq.2.1 0
      have b1 : 0 ≤ a1 ∧ a1 ≤ 255 := ha1 ▸ getD_bd hq.2.1 1
      have b2 : 0 ≤ a2 ∧ a2 ≤ 255 := ha2 ▸ getD_bd hq.2.1 2
      have hsl : ∀ wx, (Instr.slice 37 (.slice q rs.length cq) (some (.int .i64 (m : Int))) none none).run Try.prog wx = .ok (.slice q' (rs.drop m).length (cq - m)) wx := by
        intro wx
        rw [run_slice_l wx 37 q rs.length cq (by rw [elem37]; exact Try.underlying37) .i64 (m : Int) (by omega) (by omega), elem37, sizeOf5]
        simp only [Result.andThen, Int.toNat_natCast, hcut]
      have hwb : Below wr.heap.size wr (wr.alloc (.cells #[.int .u8 0, .int .u8 0, .int .u8 0] 73)) := (Below.refl _ _).alloc (Nat.le_refl _) _
      have hsrc : 0 < m → ∃ ad, q = some ad ∧ ∀ j v, cs[j]? = some v → (wr.alloc (.cells #[.int .u8 0, .int .u8 0, .int .u8 0] 73)).cell? (ad.add j) = some v := by
        intro _
        have := hq.src m hmr (by omega) (hb.trans (hwb.mono hb.size))
        rw [hcs]
        have e3 : rs.take 3 = rs.take m := by rw [hm]; exact (List.take_eq_take_iff.2 (by omega))
        rw [e3]
        exact this
      have hone : ∀ v ∈ cs, v.oneCell' = true := by rw [hcs]; exact u8_oneCell _
      have hS : splice [Value.int .u8 0, .int .u8 0, .int .u8 0] 0 cs = [.int .u8 a0, .int .u8 a1, .int .u8 a2] := by
        rw [hcs, splice3z, ha0, ha1, ha2]
      have HS : Hid (splice [Value.int .u8 0, .int .u8 0, .int .u8 0] 0 cs = [.int .u8 a0, .int .u8 a1, .int .u8 a2]) := hS
      have HM : Hid (m = min rs.length 3) := hm
      have HN : Hid (enc rs = [ltr (a0 / 4), ltr (a0 % 4 * 16 + a1 / 16), ltr (a1 % 16 * 4 + a2 / 64), ltr (a2 % 64)].take (m + 1) ++ enc (rs.drop m)) := enc_step rs m a0 a1 a2 hlt hm ha0 ha1 ha2
      have hmin : cs.length = Nat.min rs.length 3 := by rw [hcl]; exact hm
      have HMIN : Hid (cs.length = Nat.min rs.length 3) := hmin
      have HONE : Hid (∀ v ∈ cs, v.oneCell' = true) := hone
      have HSRC : Hid (0 < m → ∃ ad, q = some ad ∧ ∀ j v, cs[j]? = some v → (wr.alloc (.cells #[.int .u8 0, .int .u8 0, .int .u8 0] 73)).cell? (ad.add j) = some v) := hsrc
      have HCL : Hid (cs.length = m) := hcl
      clear hm ha0 ha1 ha2 hcs hone hsrc hcut hcl hmin hS
      go_wp2_with (first
        | (refine wpList_copy_splice rfl (.tmp 14) (.tmp 15) 37 37 rfl 5 Try.underlying37 Try.size5 _ _ _ _ _ _ rfl rfl wr.heap.size 0 [.int .u8 0, .int .u8 0, .int .u8 0] 73 ?c1 cs ?c2 ?c3 ?c4 ?c5 wr.heap.size wr ?c6 ?c7 ?_))
      case c1 => exact heap_alloc_new _ _
      case c2 => exact HMIN.out
      case c3 => exact fun _ => HSRC.out (by omega)
      case c4 => rw [HCL.out]; simp; omega
      case c5 => exact HONE.out
      case c6 => exact hwb
      case c7 => exact Nat.le_refl _
      intro w2 HG hB2
      have hrow := HG.out
      rw [HS.out] at hrow
      have hz0' := cell_row hrow 0 _ rfl
      have hz1' := cell_row hrow 1 _ rfl
      have hz2' := cell_row hrow 2 _ rfl
      clear hrow HG
      have hcl := HCL.out
      have hs4 := run_cut74 m hm3
      obtain ⟨news, hnews⟩ : ∃ news, news = [ltr (a0 / 4), ltr (a0 % 4 * 16 + a1 / 16), ltr (a1 % 16 * 4 + a2 / 64), ltr (a2 % 64)].take (m + 1) := ⟨_, rfl⟩
      have HNEWS : Hid (news = [ltr (a0 / 4), ltr (a0 % 4 * 16 + a1 / 16), ltr (a1 % 16 * 4 + a2 / 64), ltr (a2 % 64)].take (m + 1)) := hnews
      clear hnews
      go_wp2_with (first
        | (go_at_call 37; refine (spread_any a0 a1 a2 _ b0.1 b0.2 b1.1 b1.2 b2.1 b2.2).mono ?_; rintro e w3 ⟨rfl, hB3⟩)
        | (go_at_call 38; refine (lettersOf_pos _ _ (by omega) (by omega)).mono ?_; rintro e w4 ⟨rfl, rfl⟩)
        | (at_builtin; refine wpList_append_own _ rfl (.tmp 19) (.tmp 22) 37 rfl w.heap.size 5 i0 (.int .u8 0) 1 1 Try.underlying37 hi hz0 hz1 hz2 rfl (by decide) _ done.length (done.map (Value.int .u8)) rfl ?d0 ⟨_, 0, none⟩ (m + 1) 4 (news.map (Value.int .u8)) rfl ?d1 ?d2 ?d3 ?d4 ?d5 ?d6 ?_))
      case d0 => exact (own_below hown (hB2.trans (hB3.mono hB2.size))).alloc _
      case d1 => rw [HNEWS.out]; simp; omega
      case d2 => rw [HNEWS.out]; exact cells_new w3 [ltr (a0 / 4), ltr (a0 % 4 * 16 + a1 / 16), ltr (a1 % 16 * 4 + a2 / 64), ltr (a2 % 64)] 74 (m + 1)
      case d3 => exact u8_oneCell _
      case d4 => unfold maxLen; omega
      case d5 => omega
      case d6 => have := hb.size; have := hB2.size; have := hB3.size; simp; omega
      intro v5 w5 hown5 hgrow5 _
      have hb3 : Below w.heap.size w w3 := hb.trans ((hB2.trans (hB3.mono hB2.size)).mono hb.size)
      have hb5 : Below w.heap.size w w5 := (hb3.alloc hb3.size _).grown hgrow5 (by have := hb3.size; simp; omega) (own_base hown)
      clear hgrow5 hB2 hB3 hown
      go_wp2
      go_roundw
      case rel =>
        refine ⟨rs.drop m, done ++ news, q', cq - m, by simp, hq', by simp; omega, ?_, ?_, hb5⟩
        · rw [HE.out, HN.out, HNEWS.out]; simp
        · have e : (done ++ news).length = done.length + (m + 1) := by rw [HNEWS.out]; simp; omega
          rw [e, List.map_append]; exact hown5
      case measure => simp [lenOf]; omega
    · obtain rfl : rs = [] := List.eq_nil_of_length_eq_zero (by omega)
      have hcv := own_string hown
      go_wp2
      go_ret
      exact ⟨by rw [HE.out]; simp [enc], hb⟩
end Go.Proofs.Ytjgogmlmcebgpaa
