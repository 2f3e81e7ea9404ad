/-
  base.Decode, by its contract: the bytes of letters, or the first error and its place.
  Letters and bytes are one thing: enc and dec are each other's inverse, and enc goes along with rows of threes.
  The statements of layer 2 that need no answer of the document's, walked: each returns true, and turns nothing that was there.
  The document's answer, bit by bit, as plain functions on lists, and that it tells the same letters and bytes.
  The document's answer of layer 2, walked: bits, letter, Encode.
  The document's answer of layer 2, walked: number, Decode.
  Events' names: the program's own answer and the document's, by contracts.
  Events: what they have, how they lie in memory, and what is told of them.
  Rows of bytes of the call's own: one byte more, and as a text.
-/
import Derived.Test.YtldegjjaknelgaaGreatDoorAY02
import Derived.Laws.AppendOwnNone
import Derived.Lib.ValidU
set_option maxRecDepth 100000
set_option maxHeartbeats 16000000
namespace Go.Proofs.YtldegjjaknelgaaGreatDoor.Id
open Go.RowKit
theorem ret_three {a b c d : Int} {v : Value} (h : a = c) (hp : b = d) : Ending.returned (.tuple #[v, .int .i64 a, .int .i64 b]) = .returned (.tuple #[v, .int .i64 c, .int .i64 d]) := by rw [h, hp]
theorem decode_bad (s : ByteArray) (w : World) (hs : s.size ≤ 140737488351232) (hf : (flt (ints s)).1 ≠ 0) :
    Calls Tryz.prog 156 #[.string s] w fun e w' => e = .returned (.tuple #[.slice none 0 0, .int .i64 (flt (ints s)).1, .int .i64 (flt (ints s)).2]) ∧ Below w.heap.size w w' := by
 go_enter Tryz.func156, Tryz.ntmps156
 go_wp2_with (go_at_call 173; refine (fault_any s _ hs).mono ?_; rintro e w' ⟨rfl, rfl⟩)
 go_ret3
 exact ⟨ret_three rfl rfl, Below.refl _ _⟩
theorem Rest.cut (q : Option Addr) (l m g d : Nat) (hm : m ≤ l) (hq : 0 < l → q = some ⟨g, d, none⟩) :
    ∃ q', (∀ wx, (Instr.slice 80 (.slice q l l) (some (.int .i64 (m : Int))) none none).run Tryz.prog wx = .ok (.slice q' (l - m) (l - m)) wx) ∧ (0 < l - m → q' = some ⟨g, d + m, none⟩) := by
 refine ⟨if l = m then q else q.map (·.add (m * 1)), fun wx => ?_, fun h => ?_⟩
 · rw [run_slice_l wx 80 q l l (by rw [elem80]; exact Tryz.underlying80) .i64 (m : Int) (by omega) (by omega), elem80, sizeOf5]
   simp only [Result.andThen, Int.toNat_natCast, sliced]
 · rw [if_neg (by omega), hq (by omega)]
   simp [Addr.add]
theorem row_own {w : World} {B g n : Nat} {xs : List Value} (h : w.ownsRow B 5 1 (.slice (some ⟨g, 0, none⟩) n n) n xs) : w.heap[g]? = some (.cells xs.toArray 5 (0, 0)) := by
 rcases h.2 with ⟨h', _⟩ | ⟨g', cap, cur, he, hg, hgg, h1, h2, h3, h4⟩
 · cases h'
 · cases he
   rw [hgg]
   have e : xs = cur.toList := by rw [← h4, List.take_of_length_le (by simp; omega)]
   rw [e]
theorem made_zero (n : Nat) : (madeCells #[Value.int .u8 0] n).toList = (List.replicate n (0 : Int)).map (Value.int .u8) := by
 rw [toList_madeCells_one]; simp
theorem splice_zero (done news : List Int) (l : Nat) :
    splice ((done ++ List.replicate l (0 : Int)).map (Value.int .u8)) done.length (news.map (Value.int .u8)) = ((done ++ news) ++ List.replicate (l - news.length) (0 : Int)).map (Value.int .u8) := by
 simp only [splice, List.map_append, List.length_map, List.append_assoc]
 rw [List.take_append_of_le_length (by simp), List.take_of_length_le (by simp), List.drop_append, List.drop_eq_nil_of_le (by simp), List.map_replicate, List.drop_replicate]
 simp
theorem decode_good (s : ByteArray) (w : World) (hs : s.size ≤ 140737488351232) (hf : (flt (ints s)).1 = 0) :
    Calls Tryz.prog 156 #[.string s] w fun e w' => e = .returned (.tuple #[.slice (some ⟨w.heap.size, 0, none⟩) (dec (ints s)).length (dec (ints s)).length, .int .i64 0, .int .i64 0]) ∧
     w'.heap[w.heap.size]? = some (.cells ((dec (ints s)).map (Value.int .u8)).toArray 5 (0, 0)) ∧ Below w.heap.size w w' := by
 obtain ⟨i0, hi, hz0, hz1, hz2⟩ := info_parts Tryz.info5
 have h4 : s.size % 4 ≠ 1 := by have := (flt_ok _ hf).2.1; rw [ints_length] at this; exact this
 obtain ⟨L, hL⟩ : ∃ L, L = (dec (ints s)).length := ⟨_, rfl⟩
 have hl : ((L : Nat) : Int) = (s.size : Int) / 4 * 3 + byts ((s.size : Int) % 4) := by rw [hL, dec_length, ints_length]
 have hby := byts_bd ((s.size : Int) % 4) (by omega)
 have HL : Hid (L = (dec (ints s)).length) := hL
 have HL' : Hid (((L : Nat) : Int) = (s.size : Int) / 4 * 3 + byts ((s.size : Int) % 4)) := hl
 have hle : L ≤ 140737488351232 := by omega
 rw [← hL]
 clear hl hL
 go_enter Tryz.func156, Tryz.ntmps156
 go_wp2_with (first
  | (go_at_call 173; refine (fault_any s _ hs).mono ?_; rintro e w' ⟨rfl, rfl⟩)
  | (go_at_call 174; refine (bytesOf_any _ _ (by omega) (by omega)).mono ?_; rintro e w' ⟨rfl, rfl⟩)
  | (at_make; refine wpList_make_full _ rfl _ _ 80 rfl w.heap.size 5 i0 (.int .u8 0) 1 Tryz.underlying80 hi hz0 hz1 _ _ _ _ L rfl rfl ?b0 ?b1 ?b2 ?b3 (Nat.le_refl _) ?_))
 case b0 => exact HL'.out.symm
 case b1 => exact HL'.out.symm
 case b2 => rw [hz2]; omega
 case b3 => unfold maxLen; omega
 intro w1 hown hgrow
 have hb1 : Below w.heap.size w w1 := (Below.refl _ _).grown hgrow (Nat.le_refl _) (by simp)
 have HR1 : Hid (w1.heap[w.heap.size]? = some (.cells ((([] : List Int) ++ List.replicate L (0 : Int)).map (Value.int .u8)).toArray 5 (0, 0))) := by
  have := row_own hown
  rw [made_zero] at this
  exact this
 clear hown hgrow
 go_wp2
 go_loopw [0, 8] (fun sv rv wr => ∃ (t : ByteArray) (done : List Int) (q : Option Addr) (l : Nat), sv = .string t ∧ t.size ≤ s.size ∧ t.size % 4 ≠ 1 ∧ dec (ints s) = done ++ dec (ints t) ∧ l = (dec (ints t)).length ∧
     rv = .slice q l l ∧ (0 < l → q = some ⟨w.heap.size, done.length, none⟩) ∧ wr.heap[w.heap.size]? = some (.cells ((done ++ List.replicate l (0 : Int)).map (Value.int .u8)).toArray 5 (0, 0)) ∧ Below w.heap.size w wr)
  (fun _ rv _ => lenOf rv)
 case atStart => exact ⟨s, [], _, L, rfl, Nat.le_refl _, h4, rfl, HL.out, rfl, fun _ => rfl, HR1.out, hb1⟩
 case round =>
  clear HR1 hb1
  obtain ⟨t, done, q, l, rfl, ht, ht4, hdec, hl, rfl, hq, hrow, hb⟩ := hrel
  have HD : Hid (dec (ints s) = done ++ dec (ints t)) := hdec
  have HLL : Hid (l = (dec (ints t)).length) := hl
  have HROW : Hid (wr.heap[w.heap.size]? = some (.cells ((done ++ List.replicate l (0 : Int)).map (Value.int .u8)).toArray 5 (0, 0))) := hrow
  have HQ : Hid (0 < l → q = some ⟨w.heap.size, done.length, none⟩) := hq
  have hpos : 0 < l ↔ 0 < t.size := by rw [hl, ← ints_length]; exact dec_pos _ (by rw [ints_length]; exact ht4)
  clear hdec hl hrow hq
  by_cases hlt : 0 < l
  · have ht0 : 0 < t.size := hpos.1 hlt
    obtain ⟨m, hm⟩ : ∃ m, m + 1 = min t.size 4 := ⟨min t.size 4 - 1, by omega⟩
    have hm1 : 1 ≤ m := by omega
    have hm3 : m ≤ 3 := by omega
    obtain ⟨a0, ha0⟩ : ∃ a, (ints t).getD 0 0 = a := ⟨_, rfl⟩
    obtain ⟨a1, ha1⟩ : ∃ a, (ints t).getD 1 0 = a := ⟨_, rfl⟩
    obtain ⟨a2, ha2⟩ : ∃ a, (ints t).getD 2 0 = a := ⟨_, rfl⟩
    obtain ⟨a3, ha3⟩ : ∃ a, (ints t).getD 3 0 = a := ⟨_, rfl⟩
    have b0 : 0 ≤ a0 ∧ a0 ≤ 255 := ha0 ▸ getD_bd (ints_bd t) 0
    have b1 : 0 ≤ a1 ∧ a1 ≤ 255 := ha1 ▸ getD_bd (ints_bd t) 1
    have b2 : 0 ≤ a2 ∧ a2 ≤ 255 := ha2 ▸ getD_bd (ints_bd t) 2
    have b3 : 0 ≤ a3 ∧ a3 ≤ 255 := ha3 ▸ getD_bd (ints_bd t) 3
    have hstep := dec_step (ints t) m a0 a1 a2 a3 hm1 (by rw [ints_length]; exact hm) ha0 ha1 ha2 ha3
    obtain ⟨news, hnews⟩ : ∃ news, news = [num0 a0 * 4 + num0 a1 / 16, num0 a1 % 16 * 16 + num0 a2 / 4, num0 a2 % 4 * 64 + num0 a3].take m := ⟨_, rfl⟩
    have hnl : news.length = m := by rw [hnews]; simp; omega
    rw [← hnews] at hstep
    have hll : l = m + (dec ((ints t).drop (m + 1))).length := by rw [HLL.out, hstep]; simp [hnl]
    have hml : m ≤ l := by omega
    have hS : splice [Value.int .u8 0, .int .u8 0, .int .u8 0, .int .u8 0] 0 (((ints t).take (m + 1)).map (Value.int .u8)) = [.int .u8 a0, .int .u8 a1, .int .u8 a2, .int .u8 a3] := by
     have e3 : (ints t).take (m + 1) = (ints t).take 4 := by rw [hm]; exact (List.take_eq_take_iff.2 (by rw [ints_length]; omega))
     rw [e3, splice4z, ha0, ha1, ha2, ha3]
    have HS : Hid (splice [Value.int .u8 0, .int .u8 0, .int .u8 0, .int .u8 0] 0 (((ints t).take (m + 1)).map (Value.int .u8)) = [.int .u8 a0, .int .u8 a1, .int .u8 a2, .int .u8 a3]) := hS
    have HST : Hid (dec (ints t) = news ++ dec ((ints t).drop (m + 1))) := hstep
    have HN : Hid (news = [num0 a0 * 4 + num0 a1 / 16, num0 a1 % 16 * 16 + num0 a2 / 4, num0 a2 % 4 * 64 + num0 a3].take m) := hnews
    have HNL : Hid (news.length = m) := hnl
    have HM : Hid (m + 1 = min t.size 4) := hm
    have HLM : Hid (l = m + (dec ((ints t).drop (m + 1))).length) := hll
    obtain ⟨t', ht'⟩ : ∃ t', t' = t.extract (m + 1) t.size := ⟨_, rfl⟩
    have hst : ∀ wx, (Instr.slice 9 (.string t) (some (.int .i64 ((m : Int) + 1))) none none).run Tryz.prog wx = .ok (.string t') wx := by
     intro wx
     rw [run_slice_string_l wx 9 t Tryz.underlying9 .i64 ((m : Int) + 1) (by omega) (by omega), ht']
     rfl
    have HT : Hid (ints t' = (ints t).drop (m + 1)) := by
     have := ints_extract t (m + 1)
     rw [← ht'] at this
     exact this
    have hts : t'.size = t.size - (m + 1) := by rw [← ints_length, HT.out, List.length_drop, ints_length]
    have HTS : Hid (t'.size = t.size - (m + 1)) := hts
    obtain ⟨q', hsl, hq'⟩ := Rest.cut q l m w.heap.size done.length hml HQ.out
    have HQ' : Hid (0 < l - m → q' = some ⟨w.heap.size, done.length + m, none⟩) := hq'
    have hc33 := run_cut188 m hm3
    clear hm ha0 ha1 ha2 ha3 hstep hnews hnl hll hS ht' hts hq'
    have hwb : Below wr.heap.size wr (wr.alloc (.cells #[.int .u8 0, .int .u8 0, .int .u8 0, .int .u8 0] 187)) := (Below.refl _ _).alloc (Nat.le_refl _) _
    go_wp2_with (refine wpList_copy_str rfl (.tmp 35) (.tmp 36) rfl wr.heap.size _ _ t rfl rfl [.int .u8 0, .int .u8 0, .int .u8 0, .int .u8 0] 187 ?c1 (m + 1) ?c2 ?c3 wr.heap.size wr ?c4 ?c5 ?_)
    case c1 => exact heap_alloc_new _ _
    case c2 => exact HM.out
    case c3 => simp; omega
    case c4 => exact hwb
    case c5 => exact Nat.le_refl _
    intro w2 HG hB2
    have hrow := HG.out
    rw [← List.map_take, HS.out] at hrow
    have hz0' := cell_row hrow 0 _ rfl
    have hz1' := cell_row hrow 1 _ rfl
    have hz2' := cell_row hrow 2 _ rfl
    have hz3' := cell_row hrow 3 _ rfl
    clear hrow HG
    obtain ⟨cs, hcs⟩ : ∃ cs, cs = news.map (Value.int .u8) := ⟨_, rfl⟩
    have hcl : cs.length = m := by rw [hcs, List.length_map, HNL.out]
    have HCS : Hid (cs = news.map (Value.int .u8)) := hcs
    clear hcs
    obtain ⟨cur, hcur⟩ : ∃ cur, cur = (done ++ List.replicate l (0 : Int)).map (Value.int .u8) := ⟨_, rfl⟩
    have HCUR : Hid (cur = (done ++ List.replicate l (0 : Int)).map (Value.int .u8)) := hcur
    clear hcur
    have hcl' : Hid (cs.length = m) := hcl
    go_wp2_with (first
     | (go_at_call 175; refine (gather_any a0 a1 a2 a3 _ b0.1 b0.2 b1.1 b1.2 b2.1 b2.2 b3.1 b3.2).mono ?_; rintro e w3 ⟨rfl, hB3⟩)
     | (go_at_call 174; refine (bytesOf_pos _ _ (by omega) (by omega)).mono ?_; rintro e w4 ⟨rfl, rfl⟩)
     | (refine wpList_copy_splice rfl (.tmp 41) (.tmp 44) 80 80 rfl 5 Tryz.underlying80 Tryz.size5 _ _ _ _ _ _ rfl rfl w.heap.size done.length cur 5 ?d1 cs ?d2 ?d3 ?d4 ?d5 w.heap.size w ?d6 ?d7 ?_))
    case d1 =>
     have hlr : w.heap.size < wr.heap.size := (Array.getElem?_eq_some_iff.1 HROW.out).1
     have hbr : Below wr.heap.size wr w3 := hB2.trans (hB3.mono hB2.size)
     rw [heap_alloc_old _ _ (by have := hbr.size; omega), hbr.block _ hlr, HROW.out, HCUR.out]
    case d2 => rw [hcl'.out]; exact (Nat.min_eq_left hml).symm
    case d3 =>
     intro _
     refine ⟨HQ.out hlt, _, rfl, ?_⟩
     rw [HCS.out, HN.out]
     exact cells_new w3 [num0 a0 * 4 + num0 a1 / 16, num0 a1 % 16 * 16 + num0 a2 / 4, num0 a2 % 4 * 64 + num0 a3] 188 m
    case d4 => rw [hcl'.out, HCUR.out]; simp; omega
    case d5 => rw [HCS.out]; exact u8_oneCell _
    case d6 =>
     have hb3 : Below w.heap.size w w3 := hb.trans ((hB2.trans (hB3.mono hB2.size)).mono hb.size)
     exact hb3.alloc hb3.size _
    case d7 => exact Nat.le_refl _
    intro w5 HG5 hb5
    clear hB2 hB3
    go_wp2
    go_roundw
    case rel =>
     refine ⟨t', done ++ news, q', l - m, rfl, by rw [HTS.out]; omega, by rw [HTS.out]; have := HM.out; omega, ?_, ?_, rfl, ?_, ?_, hb5⟩
     · rw [HD.out, HST.out, HT.out]; simp
     · rw [HT.out]; have := HLM.out; omega
     · intro h; rw [HQ'.out h, List.length_append, HNL.out]
     · rw [HG5.out, HCUR.out, HCS.out, splice_zero, HNL.out]
    case measure => simp [lenOf]; omega
  · obtain rfl : l = 0 := by omega
    have hd0 : dec (ints t) = [] := List.eq_nil_of_length_eq_zero HLL.out.symm
    have HDD : Hid (dec (ints s) = done) := by
     have := HD.out
     rw [hd0, List.append_nil] at this
     exact this
    clear hd0
    go_wp2
    go_ret3
    refine ⟨rfl, ?_, hb⟩
    have := HROW.out
    rw [HDD.out]
    simpa using this
def evt (s : ByteArray) : Bool := decide (s.size = 12) && decide ((ints s).getD 0 0 = 36) && decide ((flt (ints (s.extract 1 s.size))).1 = 0)
theorem evt_size (s : ByteArray) (h : s.size ≠ 12) : evt s = false := by unfold evt; simp [h]
theorem evt_sign (s : ByteArray) (h : (ints s).getD 0 0 ≠ 36) : evt s = false := by
 unfold evt
 have : decide ((ints s).getD 0 0 = 36) = false := decide_eq_false h
 rw [this]; simp
theorem evt_bad (s : ByteArray) (h : (flt (ints (s.extract 1 s.size))).1 ≠ 0) : evt s = false := by
 unfold evt
 rw [decide_eq_false h]; simp
theorem evt_good (s : ByteArray) (h1 : s.size = 12) (h2 : (ints s).getD 0 0 = 36) (h3 : (flt (ints (s.extract 1 s.size))).1 = 0) : evt s = true := by
 unfold evt
 rw [decide_eq_true h1, decide_eq_true h2, decide_eq_true h3]; rfl
theorem event_any (s : ByteArray) (w : World) (hs : s.size ≤ 140737488351232) :
    Calls Tryz.prog 133 #[.string s] w fun e w' => e = .returned (.bool (evt s)) ∧ Below w.heap.size w w' := by
 by_cases hp : ∀ h : 0 < s.size, s[0] ≠ 36
 · have HE : Hid (evt s = false) := by
     by_cases h0 : s.size = 0
     · exact evt_size s (by omega)
     · refine evt_sign s ?_
       rw [ints_getD s 0 (by omega)]
       intro h
       exact hp (by omega) ((u8_int s[0] 36).1 h)
   go_enter Tryz.func133, Tryz.ntmps133
   go_wp2_with (go_at_call 147; refine (cutPrefix_no s 36 _ hs hp).mono ?_; rintro e w' ⟨rfl, rfl⟩)
   go_ret
   exact ⟨ret_bool HE.out.symm, Below.refl _ _⟩
 · obtain ⟨h0, hc⟩ : ∃ h : 0 < s.size, s[0] = 36 := by simpa using hp
   clear hp
   have HG : Hid ((ints s).getD 0 0 = 36) := by rw [ints_getD s 0 h0, hc]; rfl
   have hz : (s.extract 1 s.size).size = s.size - 1 := by simp
   obtain ⟨t, ht⟩ : ∃ t, t = s.extract 1 s.size := ⟨_, rfl⟩
   have hcut := fun wx : World => cutPrefix_yes s 36 wx hs h0 hc
   rw [← ht] at hz hcut
   have HT : Hid (t = s.extract 1 s.size) := ht
   clear ht
   by_cases h12 : s.size = 12
   · have hz11 : t.size = 11 := by omega
     have hz11' : (t.size : Int) = 11 := by omega
     by_cases hf : (flt (ints t)).1 = 0
     · have HE : Hid (evt s = true) := evt_good s h12 HG.out (by rw [← HT.out]; exact hf)
       go_enter Tryz.func133, Tryz.ntmps133
       go_wp2_with (first
        | (go_at_call 147; refine (hcut _).mono ?_; rintro e w' ⟨rfl, rfl⟩)
        | (go_at_call 156; refine (decode_good t _ (by omega) hf).mono ?_; rintro e w1 ⟨rfl, _, hb1⟩))
       go_ret
       exact ⟨ret_bool HE.out.symm, hb1⟩
     · have HE : Hid (evt s = false) := evt_bad s (by rw [← HT.out]; exact hf)
       have hfb : ((flt (ints t)).1 == 0) = false := by simp [hf]
       go_enter Tryz.func133, Tryz.ntmps133
       go_wp2_with (first
        | (go_at_call 147; refine (hcut _).mono ?_; rintro e w' ⟨rfl, rfl⟩)
        | (go_at_call 156; refine (decode_bad t _ (by omega) hf).mono ?_; rintro e w1 ⟨rfl, hb1⟩))
       go_ret
       exact ⟨ret_bool HE.out.symm, hb1⟩
   · have HE : Hid (evt s = false) := evt_size s h12
     have hn : ¬ (t.size : Int) = 11 := by omega
     have hnb : ((t.size : Int) != 11) = true := by simp [hn]
     go_enter Tryz.func133, Tryz.ntmps133
     go_wp2_with (go_at_call 147; refine (hcut _).mono ?_; rintro e w' ⟨rfl, rfl⟩)
     go_ret
     exact ⟨ret_bool HE.out.symm, Below.refl _ _⟩
end Go.Proofs.YtldegjjaknelgaaGreatDoor.Id
namespace Go.Proofs.YtldegjjaknelgaaGreatDoor
open Go.RowKit
structure Ev where
 room : ByteArray
 typ : ByteArray
 sender : ByteArray
 st : Bool
 key : ByteArray
 content : J
 prev : List ByteArray
 auth : List ByteArray
 depth : Int
 ts : Int
 hash : ByteArray
 sigs : List (ByteArray × ByteArray)
structure Pt where
 pk : Option Addr
 ck : Nat
 pl : Option Addr
 cl : Nat
 pp : Option Addr
 cp : Nat
 pa : Option Addr
 ca : Nat
 ps : Option Addr
 cs : Nat
def Ev.zero : Ev := ⟨nix, nix, nix, false, nix, J.zero, [], [], 0, 0, nix, []⟩
def Pt.zero : Pt := ⟨none, 0, none, 0, none, 0, none, 0, none, 0⟩
def five (j : J) (p : Pt) : List Value := [.int .i64 j.kind, .int .i64 j.int, .string j.text, .slice p.pk j.keys.length p.ck, .slice p.pl j.list.length p.cl]
def cellsE (e : Ev) (p : Pt) : List Value := [.string e.room, .string e.typ, .string e.sender, .bool e.st, .string e.key, .int .i64 e.content.kind, .int .i64 e.content.int, .string e.content.text, .slice p.pk e.content.keys.length p.ck, .slice p.pl e.content.list.length p.cl, .slice p.pp e.prev.length p.cp, .slice p.pa e.auth.length p.ca, .int .i64 e.depth, .int .i64 e.ts, .string e.hash, .slice p.ps e.sigs.length p.cs]
def valE (e : Ev) (p : Pt) : Value := .agg (cellsE e p).toArray
def RdS (O : Nat → Prop) (w : World) (p : Option Addr) (c : Nat) (l : List (ByteArray × ByteArray)) : Prop :=
 l.length ≤ c ∧ ∀ j, j < l.length → ∃ b o, p = some ⟨b, o, none⟩ ∧ O b ∧ w.cell? ⟨b, o + j * 2, none⟩ = some (.string (l.getD j (nix, nix)).1) ∧ w.cell? ⟨b, o + j * 2 + 1, none⟩ = some (.string (l.getD j (nix, nix)).2)
theorem RdS.nil (O : Nat → Prop) (w : World) (c : Nat) (p : Option Addr) : RdS O w p c [] := ⟨Nat.zero_le _, fun j hj => absurd hj (by simp)⟩
theorem RdS.carry {O O' : Nat → Prop} {w w' : World} {p : Option Addr} {c : Nat} {l : List (ByteArray × ByteArray)} (h : RdS O w p c l) (hO : ∀ k, O k → O' k ∧ w'.heap[k]? = w.heap[k]?) : RdS O' w' p c l :=
 ⟨h.1, fun j hj => by
  obtain ⟨b, o, hp, hB, h1, h2⟩ := h.2 j hj
  exact ⟨b, o, hp, (hO _ hB).1, (World.cell?_of_block (a := ⟨b, o + j * 2, none⟩) (hO _ hB).2).trans h1, (World.cell?_of_block (a := ⟨b, o + j * 2 + 1, none⟩) (hO _ hB).2).trans h2⟩⟩
structure IsE (O : Nat → Prop) (w : World) (e : Ev) (p : Pt) : Prop where
 cont : isJ O w e.content (five e.content p)
 prev : RdK O w p.pp p.cp e.prev
 auth : RdK O w p.pa p.ca e.auth
 sigs : RdS O w p.ps p.cs e.sigs
theorem IsE.carry {O O' : Nat → Prop} {w w' : World} {e : Ev} {p : Pt} (h : IsE O w e p) (hO : ∀ k, O k → O' k ∧ w'.heap[k]? = w.heap[k]?) : IsE O' w' e p :=
 ⟨h.cont.carry hO, h.prev.carry hO, h.auth.carry hO, h.sigs.carry hO⟩
theorem IsE.below {O : Nat → Prop} {w w' : World} {e : Ev} {p : Pt} (h : IsE O w e p) (hO : ∀ k, O k → k < w.heap.size) (hb : Below w.heap.size w w') : IsE O w' e p := h.carry fun k hk => ⟨hk, hb.block k (hO k hk)⟩
theorem isE_zero (O : Nat → Prop) (w : World) : IsE O w Ev.zero Pt.zero := ⟨isJ_zero _ _, RdK.nil _ _, RdK.nil _ _, RdS.nil _ _ _ _⟩
def dol (s : ByteArray) : ByteArray := ⟨#[36]⟩ ++ s
def placedE (e : Ev) : Bool := (Id.parts 33 e.room).2.2 && (Id.parts 64 e.sender).2.2 && Id.typ e.typ
def keyedE (e : Ev) : Bool := if e.st = true then decide (e.key.size ≤ 128) && Lib.validD e.key.data.toList else decide (e.key.size = 0)
def filledE (c : J) : Bool := decide (c.kind = 5) && goodJ 12 (.mk 4 0 nix [] [c])
def namedE (most : Nat) (l : List ByteArray) : Bool := decide (l.length ≤ most) && noKeyTwice l && l.all Id.evt
def withinE (n most : Int) : Bool := decide (0 ≤ n) && decide (n ≤ most)
def digestE (s : ByteArray) : Bool := Id.evt (dol s)
def riseS : List (ByteArray × ByteArray) → Bool
 | a :: b :: r => ltK a.1 b.1 && riseS (b :: r)
 | _ => true
def signedE (l : List (ByteArray × ByteArray)) : Bool := decide (l.length ≤ 4) && l.all (fun s => Id.srv s.1 && digestE s.2) && riseS l
def shapedE (e : Ev) : Bool := placedE e && keyedE e && filledE e.content && namedE 20 e.prev && namedE 10 e.auth && withinE e.depth 1099511627776 && withinE e.ts maxInt && (decide (e.hash.size = 0) || digestE e.hash) && signedE e.sigs
def textJ (s : ByteArray) : J := .mk 3 0 s [] []
def numJ (n : Int) : J := .mk 2 n nix [] []
def textsJ (l : List ByteArray) : J := .mk 4 0 nix [] (l.map textJ)
def tokensJ (l : List (ByteArray × ByteArray)) : J := .mk 5 0 nix (l.map (·.1)) (l.map fun s => textJ s.2)
def nAuth : ByteArray := ⟨#[97, 117, 116, 104]⟩
def nContent : ByteArray := ⟨#[99, 111, 110, 116, 101, 110, 116]⟩
def nDepth : ByteArray := ⟨#[100, 101, 112, 116, 104]⟩
def nHash : ByteArray := ⟨#[104, 97, 115, 104]⟩
def nKey : ByteArray := ⟨#[107, 101, 121]⟩
def nPrev : ByteArray := ⟨#[112, 114, 101, 118]⟩
def nRoom : ByteArray := ⟨#[114, 111, 111, 109]⟩
def nSender : ByteArray := ⟨#[115, 101, 110, 100, 101, 114]⟩
def nSigs : ByteArray := ⟨#[115, 105, 103, 115]⟩
def nTs : ByteArray := ⟨#[116, 115]⟩
def nType : ByteArray := ⟨#[116, 121, 112, 101]⟩
def pairsE (e : Ev) : List (ByteArray × J) := [(nAuth, textsJ e.auth), (nContent, e.content), (nDepth, numJ e.depth), (nHash, textJ e.hash)] ++ (if e.st = true then [(nKey, textJ e.key)] else []) ++ [(nPrev, textsJ e.prev), (nRoom, textJ e.room), (nSender, textJ e.sender), (nSigs, tokensJ e.sigs), (nTs, numJ e.ts), (nType, textJ e.typ)]
def toldJ (e : Ev) : J := .mk 5 0 nix ((pairsE e).map (·.1)) ((pairsE e).map (·.2))
theorem Tryz.info5 : (Tryz.prog.info? 5).map (fun i => (i.zero, i.size, i.bytes)) = some (some (.int .u8 0), 1, 1) := by kernel_rfl
theorem own_ge {w : World} {B e size n : Nat} {v : Value} {xs : List Value} (h : w.ownsRow B e size v n xs) : ∀ k, v.ownBlock = some k → B ≤ k ∧ k < w.heap.size := by
 intro k hk
 rcases h.2 with ⟨rfl, _⟩ | ⟨g, cap, cur, rfl, hg, hgg, _⟩
 · cases hk
 · cases hk; exact ⟨hg, (Array.getElem?_eq_some_iff.1 hgg).1⟩
theorem Keep.grown {S : Nat → Prop} {a b c : World} {row : Option Nat} (h : Keep S a b) (hg : b.grownBy c row) (hr : ∀ k, row = some k → a.heap.size ≤ k) : Keep S a c :=
 h.trans (S' := fun k => row = some k) (Keep.of_grown hg fun _ _ e => e) fun i hi e => absurd (hr i e) (by omega)
end Go.Proofs.YtldegjjaknelgaaGreatDoor
