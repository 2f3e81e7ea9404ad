/-
  How many bytes an event's JSON has at most; the events of the law of limits.
  The event of a value: by a contract.
  The event of a value: by a contract.
  The event of a value: by a contract.
  The event of a value, and of bytes: by contracts.
  The law's sample, by a contract.
  An event that is loaded, or stored, as one operation.
-/
import Derived.Test.YtegcgbjjpgjnmaaGreatDoorG29
import Derived.Test.YtegcgbjjpgjnmaaGreatDoorG25
namespace Go.Proofs.YtegcgbjjpgjnmaaGreatDoor
open Go.RowKit Go.Maps
def pairLenE (p : ByteArray × J) : Nat := (quote (ints p.1)).length + 2 + (enc' p.2).length
theorem encP_sumE : ∀ (z : List (ByteArray × J)) (b : Bool), (encP b (z.map (·.1)) (z.map (·.2))).length ≤ (z.map pairLenE).sum
  | [], b => by simp [encP]
  | p :: r, b => by
    have := encP_sumE r false
    rw [List.map_cons, List.map_cons, encP_cons, List.map_cons, List.sum_cons]
    simp only [List.headD_cons, List.tail_cons, List.length_append, List.length_cons]
    have e : (if b = true then ([] : List Int) else [44]).length ≤ 1 := by cases b <;> simp
    show _ ≤ ((quote (ints p.1)).length + 2 + (enc' p.2).length) + (r.map pairLenE).sum
    omega
theorem encL_sumE : ∀ (l : List J) (b : Bool), (encL b l).length ≤ (l.map fun j => (enc' j).length + 1).sum
  | [], b => by simp [encL]
  | j :: r, b => by
    have := encL_sumE r false
    rw [encL_cons, List.map_cons, List.sum_cons]
    simp only [List.length_append]
    have e : (if b = true then ([] : List Int) else [44]).length ≤ 1 := by cases b <;> simp
    omega
theorem esc_le (c : Int) : (escByte c).length ≤ 6 := by
  unfold escByte
  repeat' split
  all_goals simp
theorem escs_le : ∀ l : List Int, (l.flatMap escByte).length ≤ 6 * l.length
  | [] => by simp
  | c :: r => by
    have h1 := esc_le c
    have h2 := escs_le r
    rw [List.flatMap_cons, List.length_append, List.length_cons]
    omega
theorem quote_le (s : ByteArray) : (quote (ints s)).length ≤ 6 * s.size + 2 := by
  unfold quote
  rw [List.length_cons, List.length_append, List.length_singleton]
  have := escs_le (ints s)
  have e : (ints s).length = s.size := by unfold ints; simp
  omega
theorem sortK_sumE (z : List (ByteArray × J)) : ((sortK z).map pairLenE).sum = (z.map pairLenE).sum := by
  have put : ∀ (k : ByteArray) (v : J) (l : List (ByteArray × J)), ((putK k v l).map pairLenE).sum = pairLenE (k, v) + (l.map pairLenE).sum := by
    intro k v l
    induction l with
    | nil => simp [putK]
    | cons q r ih =>
      unfold putK
      split
      · simp
      · rw [List.map_cons, List.sum_cons, ih, List.map_cons, List.sum_cons]
        omega
  induction z with
  | nil => rfl
  | cons q r ih => rw [sortK, put, ih, List.map_cons, List.sum_cons]
theorem text_le (s : ByteArray) : (enc' (ord (textJ s))).length ≤ 6 * s.size + 2 := quote_le s
theorem texts_le {l : List ByteArray} (h : ∀ x ∈ l, x.size ≤ 12) : (enc' (ord (textsJ l))).length ≤ 2 + 75 * l.length := by
  have e : ordL (l.map textJ) = l.map fun x => ord (textJ x) := by
    clear h
    induction l with
    | nil => rfl
    | cons a r ih => rw [List.map_cons, ordL, ih, List.map_cons]
  have h1 := encL_sumE (ordL (l.map textJ)) true
  rw [e, List.map_map] at h1
  have h2 : (l.map ((fun j => (enc' j).length + 1) ∘ fun x => ord (textJ x))).sum ≤ 75 * l.length := by
    clear h1 e
    induction l with
    | nil => simp
    | cons a r ih =>
      have i1 := ih fun x hx => h x (List.mem_cons_of_mem _ hx)
      have i2 := text_le a
      have i3 := h a List.mem_cons_self
      rw [List.map_cons, List.sum_cons, List.length_cons]
      show ((enc' (ord (textJ a))).length + 1) + _ ≤ _
      omega
  show (91 :: (encL true (ordL (l.map textJ)) ++ [93])).length ≤ _
  rw [List.length_cons, List.length_append, List.length_singleton, e]
  omega
theorem map_le (t : ByteArray) (ks : List ByteArray) (l : List J) : (enc' (ord (.mk 5 0 t ks l))).length ≤ 2 + ((ks.zip (ordL l)).map pairLenE).sum := by
  rw [ord, if_pos rfl]
  unfold mapOf
  rw [enc', if_neg (by decide), if_neg (by decide), if_neg (by decide), if_neg (by decide), if_neg (by decide), if_pos rfl]
  have h1 := encP_sumE (sortK (ks.zip (ordL l))) true
  rw [sortK_sumE] at h1
  simp only [List.length_cons, List.length_append, List.length_nil]
  omega
/-- So many letters k. -/
def keyB : Nat → ByteArray
  | 0 => nix
  | k + 1 => keyB k ++ ⟨#[107]⟩
theorem keyB_size : ∀ k, (keyB k).size = k
  | 0 => rfl
  | k + 1 => by
    show (keyB k ++ ⟨#[107]⟩).size = k + 1
    rw [ByteArray.size_append, keyB_size k]
    rfl
def namesB (n : Nat) : List ByteArray := (List.range n).map nameB
theorem namesB_succ (n : Nat) : namesB (n + 1) = namesB n ++ [nameB n] := by unfold namesB; rw [List.range_succ, List.map_append]; rfl
theorem namesB_length (n : Nat) : (namesB n).length = n := by unfold namesB; simp
theorem nameB_size (k : Nat) : (nameB k).size ≤ 12 := by
  have z : (⟨#[36, 65, 65, 65, 65, 65, 65, 65, 65, 65]⟩ : ByteArray).size = 10 := rfl
  unfold nameB
  rw [ByteArray.size_append, ByteArray.size_append, ByteArray.size_extract, ByteArray.size_extract, z]
  omega
theorem namesB_size (n : Nat) : ∀ x ∈ namesB n, x.size ≤ 12 := fun x hx => by
  unfold namesB at hx
  obtain ⟨k, _, rfl⟩ := List.mem_map.1 hx
  exact nameB_size k
/-- The event of the law of limits. -/
def limE (n m k : Nat) : Ev := ⟨sRoom, sType, sSender, true, keyB k, .mk 5 0 nix [] [], namesB n, namesB m, 0, 0, nix, []⟩
theorem lim_len {n m k : Nat} (hn : n < 25) (hm : m < 15) (hk : k < 140) : (encB (limE n m k)).length ≤ 16384 := by
  have h1 := map_le nix ((pairsE (limE n m k)).map (·.1)) ((pairsE (limE n m k)).map (·.2))
  have h2 : encB (limE n m k) = enc' (ord (.mk 5 0 nix ((pairsE (limE n m k)).map (·.1)) ((pairsE (limE n m k)).map (·.2)))) := rfl
  rw [← h2] at h1
  refine Nat.le_trans h1 ?_
  have a1 := texts_le (namesB_size n)
  have a2 := texts_le (namesB_size m)
  rw [namesB_length] at a1 a2
  have a3 := text_le (keyB k)
  rw [keyB_size] at a3
  have e : ((((pairsE (limE n m k)).map (·.1)).zip (ordL ((pairsE (limE n m k)).map (·.2)))).map pairLenE).sum = ((quote (ints nAuth)).length + 2 + (enc' (ord (textsJ (namesB m)))).length) + (((quote (ints nContent)).length + 2 + (enc' (ord (.mk 5 0 nix [] []))).length) + (((quote (ints nDepth)).length + 2 + (enc' (ord (numJ 0))).length) + (((quote (ints nHash)).length + 2 + (enc' (ord (textJ nix))).length) + (((quote (ints nKey)).length + 2 + (enc' (ord (textJ (keyB k)))).length) + (((quote (ints nPrev)).length + 2 + (enc' (ord (textsJ (namesB n)))).length) + (((quote (ints nRoom)).length + 2 + (enc' (ord (textJ sRoom))).length) + (((quote (ints nSender)).length + 2 + (enc' (ord (textJ sSender))).length) + (((quote (ints nSigs)).length + 2 + (enc' (ord (tokensJ []))).length) + (((quote (ints nTs)).length + 2 + (enc' (ord (numJ 0))).length) + (((quote (ints nType)).length + 2 + (enc' (ord (textJ sType))).length) + 0)))))))))) := rfl
  rw [e]
  have b0 : (quote (ints nAuth)).length = 6 := by kernel_rfl
  have b1 : (quote (ints nContent)).length + 2 + (enc' (ord (.mk 5 0 nix [] []))).length = 13 := by kernel_rfl
  have b2 : (quote (ints nDepth)).length + 2 + (enc' (ord (numJ 0))).length = 10 := by kernel_rfl
  have b3 : (quote (ints nHash)).length + 2 + (enc' (ord (textJ nix))).length = 10 := by kernel_rfl
  have b4 : (quote (ints nKey)).length = 5 := by kernel_rfl
  have b5 : (quote (ints nPrev)).length = 6 := by kernel_rfl
  have b6 : (quote (ints nRoom)).length + 2 + (enc' (ord (textJ sRoom))).length = 15 := by kernel_rfl
  have b7 : (quote (ints nSender)).length + 2 + (enc' (ord (textJ sSender))).length = 19 := by kernel_rfl
  have b8 : (quote (ints nSigs)).length + 2 + (enc' (ord (tokensJ []))).length = 10 := by kernel_rfl
  have b9 : (quote (ints nTs)).length + 2 + (enc' (ord (numJ 0))).length = 7 := by kernel_rfl
  have b10 : (quote (ints nType)).length + 2 + (enc' (ord (textJ sType))).length = 24 := by kernel_rfl
  rw [b0, b1, b2, b3, b4, b5, b6, b7, b8, b9, b10]
  omega
theorem named20 : ((List.range 25).all fun n => namedE 20 (namesB n) == decide (n ≤ 20)) = true := by kernel_rfl
theorem named10 : ((List.range 15).all fun n => namedE 10 (namesB n) == decide (n ≤ 10)) = true := by kernel_rfl
theorem keyed140 : ((List.range 140).all fun k => (decide ((keyB k).size ≤ 128) && Lib.validD (keyB k).data.toList) == decide (k ≤ 128)) = true := by kernel_rfl
theorem lim_placed (n m k : Nat) : placedE (limE n m k) = true := by kernel_rfl
theorem lim_keyed (n m k : Nat) : keyedE (limE n m k) = (decide ((keyB k).size ≤ 128) && Lib.validD (keyB k).data.toList) := by kernel_rfl
theorem lim_rest : (filledE (.mk 5 0 nix [] []) && withinE 0 1099511627776 && withinE 0 maxInt && signedE []) = true := by kernel_rfl
theorem lim_shaped {n m k : Nat} (hn : n < 25) (hm : m < 15) (hk : k < 140) : shapedE (limE n m k) = (decide (n ≤ 20) && decide (m ≤ 10) && decide (k ≤ 128)) := by
  have h1 := eq_of_beq (List.all_eq_true.1 named20 n (List.mem_range.2 hn))
  have h2 := eq_of_beq (List.all_eq_true.1 named10 m (List.mem_range.2 hm))
  have h3 := eq_of_beq (List.all_eq_true.1 keyed140 k (List.mem_range.2 hk))
  have h4 := lim_rest
  simp only [Bool.and_eq_true] at h4
  obtain ⟨⟨⟨p2, p3⟩, p4⟩, p5⟩ := h4
  have p1' := lim_placed n m k
  have q := (lim_keyed n m k).trans h3
  unfold shapedE
  rw [p1', q]
  show (true && decide (k ≤ 128) && filledE (.mk 5 0 nix [] []) && namedE 20 (namesB n) && namedE 10 (namesB m) && withinE 0 1099511627776 && withinE 0 maxInt && (decide (nix.size = 0) || digestE nix) && signedE []) = _
  rw [h1, h2, p2, p3, p4, p5, show decide (nix.size = 0) = true from rfl]
  cases decide (n ≤ 20) <;> cases decide (m ≤ 10) <;> cases decide (k ≤ 128) <;> rfl
theorem lim_shape {n m k : Nat} (hn : n < 25) (hm : m < 15) (hk : k < 140) : shapeE (limE n m k) = if n ≤ 20 ∧ m ≤ 10 ∧ k ≤ 128 then 0 else 50 := by
  unfold shapeE
  rw [lim_shaped hn hm hk, if_neg (Nat.not_lt.2 (lim_len hn hm hk))]
  by_cases a : n ≤ 20 <;> by_cases b : m ≤ 10 <;> by_cases c : k ≤ 128 <;> simp [a, b, c]
theorem lim_sz {n m k : Nat} (hn : n < 25) (hm : m < 15) (hk : k < 140) : SzE (limE n m k) where
  room := (by decide : sRoom.size ≤ 1000000000)
  typ := (by decide : sType.size ≤ 1000000000)
  sender := (by decide : sSender.size ≤ 1000000000)
  key := by show (keyB k).size ≤ _; rw [keyB_size]; omega
  hash := (by decide : nix.size ≤ 1000000000)
  cont := by kernel_rfl
  prev := by show (namesB n).length ≤ _; rw [namesB_length]; omega
  prevs := fun x hx => Nat.le_trans (namesB_size n x hx) (by decide)
  auth := by show (namesB m).length ≤ _; rw [namesB_length]; omega
  auths := fun x hx => Nat.le_trans (namesB_size m x hx) (by decide)
  sigs := (by decide : ([] : List (ByteArray × ByteArray)).length ≤ 100000)
  sigss := fun x hx => (by cases hx)
end Go.Proofs.YtegcgbjjpgjnmaaGreatDoor
namespace Go.Proofs.YtegcgbjjpgjnmaaGreatDoor
open Go.RowKit Go.Maps
set_option maxRecDepth 100000 in
set_option maxHeartbeats 16000000 in
theorem from_no {O : Nat → Prop} {w : World} {j : J} {k i : Int} {t : ByteArray} {pk pl : Option Addr} {nk ck nl cl : Nat} (hO : ∀ x, O x → x < w.heap.size) (hj : isJ O w j [.int .i64 k, .int .i64 i, .string t, .slice pk nk ck, .slice pl nl cl]) (hs : szJ 12 j = true) (hn : (ordT j).keys.length ≤ 80000) (hT : Tabs w) (hr : readOk (ordT j) = false) :
    Calls Tryz.prog 17 #[.agg #[.int .i64 k, .int .i64 i, .string t, .slice pk nk ck, .slice pl nl cl]] w fun x w' => (∃ p, x = .returned (.tuple #[valE (fromE (ordT j)).1 p, .int .i64 (fromE (ordT j)).2]) ∧ IsE (fun q => O q ∨ New w w' q) w' (fromE (ordT j)).1 p) ∧ Below w.heap.size w w' := by
  have hN := ordT_neat hs
  have hSz := neat_read hN.1 hN.2
  have HF : Hid (fromE (ordT j) = (Ev.zero, 50)) := by
    show _ = _
    unfold fromE
    rw [hr, if_neg (by decide)]
  obtain ⟨J1, hJ1⟩ : ∃ J1, ordT j = J1 := ⟨_, rfl⟩
  obtain ⟨WB, hWB⟩ : ∃ WB, WB = (w.alloc (.cells #[.int .i64 k, .int .i64 i, .string t, .slice pk nk ck, .slice pl nl cl] 25)).alloc (.cells #[.string ⟨#[]⟩, .string ⟨#[]⟩, .string ⟨#[]⟩, .bool false, .string ⟨#[]⟩, .int .i64 0, .int .i64 0, .string ⟨#[]⟩, .slice none 0 0, .slice none 0 0, .slice none 0 0, .slice none 0 0, .int .i64 0, .int .i64 0, .string ⟨#[]⟩, .slice none 0 0] 28) := ⟨_, rfl⟩
  have hbw : Below w.heap.size w WB := by rw [hWB]; exact ((Below.refl _ _).alloc (Nat.le_refl _) _).alloc (by simp) _
  have hrs : WB.heap[w.heap.size + 1]? = some (.cells #[.string ⟨#[]⟩, .string ⟨#[]⟩, .string ⟨#[]⟩, .bool false, .string ⟨#[]⟩, .int .i64 0, .int .i64 0, .string ⟨#[]⟩, .slice none 0 0, .slice none 0 0, .slice none 0 0, .slice none 0 0, .int .i64 0, .int .i64 0, .string ⟨#[]⟩, .slice none 0 0] 28 (0, 0)) := by rw [hWB]; exact two_at _ _
  have hsB1 : w.heap.size + 2 ≤ WB.heap.size := by rw [hWB]; simp
  have hOr := order_new (w := WB) (O := O) (fun x hx => Nat.lt_of_lt_of_le (hO x hx) hbw.size) hs (hj.carry fun x hx => ⟨hx, hbw.block x (hO x hx)⟩)
  rw [hJ1] at hOr hN hSz hr hn HF ⊢
  
  have HTB : Hid (Tabs w) := hT
  have HBW : Hid (Below w.heap.size w WB) := hbw
  have HRd : Hid (∀ W k i t pk nk ck pl nl cl, Below WB.heap.size WB W → isJ (fun b => O b ∨ New WB W b) W J1 [.int .i64 k, .int .i64 i, .string t, .slice pk nk ck, .slice pl nl cl] → Calls Tryz.prog 34 #[.agg #[.int .i64 k, .int .i64 i, .string t, .slice pk nk ck, .slice pl nl cl]] W fun x w' => (∃ p, x = .returned (.tuple #[valE (readE J1) p, .bool (readOk J1)]) ∧ IsE (fun q => (O q ∨ New WB W q) ∨ New W w' q) w' (readE J1) p) ∧ Below W.heap.size W w') := fun W k i t pk nk ck pl nl cl hb h => read_any (fun x hx => hx.elim (fun hx => Nat.lt_of_lt_of_le (hO x hx) (Nat.le_trans hbw.size hb.size)) fun hx => hx.2) h hN.1 hN.2 hn
  have HSh : Hid (∀ W p, IsE (fun q => q < W.heap.size) W (readE J1) p → Below w.heap.size w W → Calls Tryz.prog 10 #[valE (readE J1) p] W fun x w' => x = .returned (.int .i64 (shapeE (readE J1))) ∧ Below W.heap.size W w') := fun W p h hb => eShape_any _ p W h (fun _ h => h) hSz (hT.below hb)
  obtain ⟨E1, hE1⟩ : ∃ E1, readE J1 = E1 := ⟨_, rfl⟩
  rw [hE1] at HRd HSh
  rw [hr] at HRd
  have HO : Hid (∀ k, O k → k < w.heap.size) := hO
  clear hj hs hN hSz hT hO hbw hJ1 hE1 hr hn
  rw [hWB] at hOr
  have HWB : Hid (WB = (w.alloc (.cells #[.int .i64 k, .int .i64 i, .string t, .slice pk nk ck, .slice pl nl cl] 25)).alloc (.cells #[.string ⟨#[]⟩, .string ⟨#[]⟩, .string ⟨#[]⟩, .bool false, .string ⟨#[]⟩, .int .i64 0, .int .i64 0, .string ⟨#[]⟩, .slice none 0 0, .slice none 0 0, .slice none 0 0, .slice none 0 0, .int .i64 0, .int .i64 0, .string ⟨#[]⟩, .slice none 0 0] 28)) := hWB
  clear hWB
  go_enter Tryz.func17, Tryz.ntmps17
  go_wp2_with (first
    | (go_at_call 10; refine hSh.mono ?_; rintro x w4 ⟨rfl, hb4⟩
       have hrs4 := (hb4.block (w.heap.size + 1) (by omega) ).trans hrs3
       have hev4 := (hb4.block w2.heap.size (by simp)).trans hev
       have lc := six_all hev4
       have ic := six_all hrs4; have zc := six_fz hrs4)
    | (go_at_call 34; refine hRd.mono ?_; rintro x w2 ⟨⟨p2, rfl, hI2⟩, hb2⟩
       obtain ⟨a0, a1, a2, b3, a4, n5, n6, a7, p8, n8, c8, p9, n9, c9, p10, n10, c10, p11, n11, c11, n12, n13, a14, p15, n15, c15, hv⟩ := six_of E1 p2
       have HV : Hid (valE E1 p2 = .agg #[.string a0, .string a1, .string a2, .bool b3, .string a4, .int .i64 n5, .int .i64 n6, .string a7, .slice p8 n8 c8, .slice p9 n9 c9, .slice p10 n10 c10, .slice p11 n11 c11, .int .i64 n12, .int .i64 n13, .string a14, .slice p15 n15 c15]) := hv
       rw [hv]
       have hw2 := below_in HBW.out (below_in hb1 hb2)
       have s2 := (below_in hb1 hb2).size
       have hsb1 := hb1.size
       have hsb2 := hb2.size
       have hI3 := hI2.carry (O' := fun q => O q ∨ (WB.heap.size ≤ q ∧ q < (w2.alloc (.cells #[.string a0, .string a1, .string a2, .bool b3, .string a4, .int .i64 n5, .int .i64 n6, .string a7, .slice p8 n8 c8, .slice p9 n9 c9, .slice p10 n10 c10, .slice p11 n11 c11, .int .i64 n12, .int .i64 n13, .string a14, .slice p15 n15 c15] 28)).heap.size)) (w' := w2.alloc (.cells #[.string a0, .string a1, .string a2, .bool b3, .string a4, .int .i64 n5, .int .i64 n6, .string a7, .slice p8 n8 c8, .slice p9 n9 c9, .slice p10 n10 c10, .slice p11 n11 c11, .int .i64 n12, .int .i64 n13, .string a14, .slice p15 n15 c15] 28)) fun q hq => by
         have hlt : q < w2.heap.size ∧ (O q ∨ WB.heap.size ≤ q) := by
           rcases hq with (h | h) | h
           · exact ⟨by have := HO.out q h; omega, .inl h⟩
           · exact ⟨by have := h.2; omega, .inr h.1⟩
           · exact ⟨h.2, .inr (by have := h.1; omega)⟩
         exact ⟨hlt.2.elim .inl fun h => .inr ⟨h, by simp; omega⟩, Below.heap_alloc _ _ _ hlt.1⟩
       have hb3 : Below w.heap.size w (w2.alloc (.cells #[.string a0, .string a1, .string a2, .bool b3, .string a4, .int .i64 n5, .int .i64 n6, .string a7, .slice p8 n8 c8, .slice p9 n9 c9, .slice p10 n10 c10, .slice p11 n11 c11, .int .i64 n12, .int .i64 n13, .string a14, .slice p15 n15 c15] 28)) := hw2.alloc hw2.size _
       have hSh := HSh.out _ _ (hI3.carry fun q hq => ⟨hq.elim (fun h => by have := HO.out q h; simp; omega) fun h => h.2, rfl⟩) hb3
       have hev := heap_alloc_new w2 (.cells #[.string a0, .string a1, .string a2, .bool b3, .string a4, .int .i64 n5, .int .i64 n6, .string a7, .slice p8 n8 c8, .slice p9 n9 c9, .slice p10 n10 c10, .slice p11 n11 c11, .int .i64 n12, .int .i64 n13, .string a14, .slice p15 n15 c15] 28)
       have hrs3 := ((below_in hb1 hb2).alloc (Nat.le_trans (Nat.le_refl _) s2) (.cells #[.string a0, .string a1, .string a2, .bool b3, .string a4, .int .i64 n5, .int .i64 n6, .string a7, .slice p8 n8 c8, .slice p9 n9 c9, .slice p10 n10 c10, .slice p11 n11 c11, .int .i64 n12, .int .i64 n13, .string a14, .slice p15 n15 c15] 28)).block (w.heap.size + 1) (by omega) |>.trans hrs
       have hsz3 : w.heap.size + 2 ≤ (w2.alloc (.cells #[.string a0, .string a1, .string a2, .bool b3, .string a4, .int .i64 n5, .int .i64 n6, .string a7, .slice p8 n8 c8, .slice p9 n9 c9, .slice p10 n10 c10, .slice p11 n11 c11, .int .i64 n12, .int .i64 n13, .string a14, .slice p15 n15 c15] 28)).heap.size := by simp; omega
       rw [hv] at hSh
       clear hv
       have ic := six_all hrs3; have zc := six_fz hrs3)
    | (go_at_call 32; refine hOr.mono ?_; rintro x w1 ⟨⟨kr, ir, tr, pr, nr, cr, qr, mr, dr, rfl, hj1⟩, hb1⟩
       rw [← HWB.out] at hb1
       have hRd := HRd.out w1 kr ir tr pr nr cr qr mr dr hb1 (by rw [← HWB.out] at hj1; exact hj1)))
  have h16 := set16_heap hrs3 (.string ⟨#[]⟩) (.string ⟨#[]⟩) (.string ⟨#[]⟩) (.bool false) (.string ⟨#[]⟩) (.int .i64 0) (.int .i64 0) (.string ⟨#[]⟩) (.slice none 0 0) (.slice none 0 0) (.slice none 0 0) (.slice none 0 0) (.int .i64 0) (.int .i64 0) (.string ⟨#[]⟩) (.slice none 0 0)
  have HK16 : Keep (One (w.heap.size + 1)) _ _ := set16_keep (w2.alloc (.cells #[.string a0, .string a1, .string a2, .bool b3, .string a4, .int .i64 n5, .int .i64 n6, .string a7, .slice p8 n8 c8, .slice p9 n9 c9, .slice p10 n10 c10, .slice p11 n11 c11, .int .i64 n12, .int .i64 n13, .string a14, .slice p15 n15 c15] 28)) (w.heap.size + 1) (.string ⟨#[]⟩) (.string ⟨#[]⟩) (.string ⟨#[]⟩) (.bool false) (.string ⟨#[]⟩) (.int .i64 0) (.int .i64 0) (.string ⟨#[]⟩) (.slice none 0 0) (.slice none 0 0) (.slice none 0 0) (.slice none 0 0) (.int .i64 0) (.int .i64 0) (.string ⟨#[]⟩) (.slice none 0 0)
  obtain ⟨WE, hWE⟩ : ∃ WE, WE = set16 (w2.alloc (.cells #[.string a0, .string a1, .string a2, .bool b3, .string a4, .int .i64 n5, .int .i64 n6, .string a7, .slice p8 n8 c8, .slice p9 n9 c9, .slice p10 n10 c10, .slice p11 n11 c11, .int .i64 n12, .int .i64 n13, .string a14, .slice p15 n15 c15] 28)) (w.heap.size + 1) (.string ⟨#[]⟩) (.string ⟨#[]⟩) (.string ⟨#[]⟩) (.bool false) (.string ⟨#[]⟩) (.int .i64 0) (.int .i64 0) (.string ⟨#[]⟩) (.slice none 0 0) (.slice none 0 0) (.slice none 0 0) (.slice none 0 0) (.int .i64 0) (.int .i64 0) (.string ⟨#[]⟩) (.slice none 0 0) := ⟨_, rfl⟩
  rw [← hWE] at h16 HK16
  unfold set16 at hWE
  rw [← hWE]
  clear hWE
  refine bodyPost_ret (results_cell_tmp rfl _ _ _ rfl (loadE h16)) rfl ?_
  have hwF : Below w.heap.size w (w2.alloc (.cells #[.string a0, .string a1, .string a2, .bool b3, .string a4, .int .i64 n5, .int .i64 n6, .string a7, .slice p8 n8 c8, .slice p9 n9 c9, .slice p10 n10 c10, .slice p11 n11 c11, .int .i64 n12, .int .i64 n13, .string a14, .slice p15 n15 c15] 28)) := hb3
  have hszF := hwF.size
  have hbE : Below w.heap.size w WE := hwF.trans (HK16.below (by omega) fun q hq => by unfold One; omega)
  rw [HF.out]
  exact ⟨⟨Pt.zero, rfl, isE_zero _ _⟩, hbE⟩
end Go.Proofs.YtegcgbjjpgjnmaaGreatDoor
namespace Go.Proofs.YtegcgbjjpgjnmaaGreatDoor
open Go.RowKit Go.Maps
set_option maxRecDepth 100000 in
set_option maxHeartbeats 16000000 in
theorem from_bad {O : Nat → Prop} {w : World} {j : J} {k i : Int} {t : ByteArray} {pk pl : Option Addr} {nk ck nl cl : Nat} (hO : ∀ x, O x → x < w.heap.size) (hj : isJ O w j [.int .i64 k, .int .i64 i, .string t, .slice pk nk ck, .slice pl nl cl]) (hs : szJ 12 j = true) (hn : (ordT j).keys.length ≤ 80000) (hT : Tabs w) (hr : readOk (ordT j) = true) (hx : shapeE (readE (ordT j)) ≠ 0) :
    Calls Tryz.prog 17 #[.agg #[.int .i64 k, .int .i64 i, .string t, .slice pk nk ck, .slice pl nl cl]] w fun x w' => (∃ p, x = .returned (.tuple #[valE (fromE (ordT j)).1 p, .int .i64 (fromE (ordT j)).2]) ∧ IsE (fun q => O q ∨ New w w' q) w' (fromE (ordT j)).1 p) ∧ Below w.heap.size w w' := by
  have hN := ordT_neat hs
  have hSz := neat_read hN.1 hN.2
  have HF : Hid (fromE (ordT j) = (Ev.zero, shapeE (readE (ordT j)))) := by
    show _ = _
    unfold fromE
    rw [if_pos hr, if_neg hx]
  obtain ⟨J1, hJ1⟩ : ∃ J1, ordT j = J1 := ⟨_, rfl⟩
  obtain ⟨WB, hWB⟩ : ∃ WB, WB = (w.alloc (.cells #[.int .i64 k, .int .i64 i, .string t, .slice pk nk ck, .slice pl nl cl] 25)).alloc (.cells #[.string ⟨#[]⟩, .string ⟨#[]⟩, .string ⟨#[]⟩, .bool false, .string ⟨#[]⟩, .int .i64 0, .int .i64 0, .string ⟨#[]⟩, .slice none 0 0, .slice none 0 0, .slice none 0 0, .slice none 0 0, .int .i64 0, .int .i64 0, .string ⟨#[]⟩, .slice none 0 0] 28) := ⟨_, rfl⟩
  have hbw : Below w.heap.size w WB := by rw [hWB]; exact ((Below.refl _ _).alloc (Nat.le_refl _) _).alloc (by simp) _
  have hrs : WB.heap[w.heap.size + 1]? = some (.cells #[.string ⟨#[]⟩, .string ⟨#[]⟩, .string ⟨#[]⟩, .bool false, .string ⟨#[]⟩, .int .i64 0, .int .i64 0, .string ⟨#[]⟩, .slice none 0 0, .slice none 0 0, .slice none 0 0, .slice none 0 0, .int .i64 0, .int .i64 0, .string ⟨#[]⟩, .slice none 0 0] 28 (0, 0)) := by rw [hWB]; exact two_at _ _
  have hsB1 : w.heap.size + 2 ≤ WB.heap.size := by rw [hWB]; simp
  have hOr := order_new (w := WB) (O := O) (fun x hx => Nat.lt_of_lt_of_le (hO x hx) hbw.size) hs (hj.carry fun x hx => ⟨hx, hbw.block x (hO x hx)⟩)
  rw [hJ1] at hOr hN hSz hr hn HF ⊢
  rw [hJ1] at hx
  have HTB : Hid (Tabs w) := hT
  have HBW : Hid (Below w.heap.size w WB) := hbw
  have HRd : Hid (∀ W k i t pk nk ck pl nl cl, Below WB.heap.size WB W → isJ (fun b => O b ∨ New WB W b) W J1 [.int .i64 k, .int .i64 i, .string t, .slice pk nk ck, .slice pl nl cl] → Calls Tryz.prog 34 #[.agg #[.int .i64 k, .int .i64 i, .string t, .slice pk nk ck, .slice pl nl cl]] W fun x w' => (∃ p, x = .returned (.tuple #[valE (readE J1) p, .bool (readOk J1)]) ∧ IsE (fun q => (O q ∨ New WB W q) ∨ New W w' q) w' (readE J1) p) ∧ Below W.heap.size W w') := fun W k i t pk nk ck pl nl cl hb h => read_any (fun x hx => hx.elim (fun hx => Nat.lt_of_lt_of_le (hO x hx) (Nat.le_trans hbw.size hb.size)) fun hx => hx.2) h hN.1 hN.2 hn
  have HSh : Hid (∀ W p, IsE (fun q => q < W.heap.size) W (readE J1) p → Below w.heap.size w W → Calls Tryz.prog 10 #[valE (readE J1) p] W fun x w' => x = .returned (.int .i64 (shapeE (readE J1))) ∧ Below W.heap.size W w') := fun W p h hb => eShape_any _ p W h (fun _ h => h) hSz (hT.below hb)
  obtain ⟨E1, hE1⟩ : ∃ E1, readE J1 = E1 := ⟨_, rfl⟩
  rw [hE1] at HRd HSh HF hx
  rw [hr] at HRd
  have HO : Hid (∀ k, O k → k < w.heap.size) := hO
  clear hj hs hN hSz hT hO hbw hJ1 hE1 hr hn
  rw [hWB] at hOr
  have HWB : Hid (WB = (w.alloc (.cells #[.int .i64 k, .int .i64 i, .string t, .slice pk nk ck, .slice pl nl cl] 25)).alloc (.cells #[.string ⟨#[]⟩, .string ⟨#[]⟩, .string ⟨#[]⟩, .bool false, .string ⟨#[]⟩, .int .i64 0, .int .i64 0, .string ⟨#[]⟩, .slice none 0 0, .slice none 0 0, .slice none 0 0, .slice none 0 0, .int .i64 0, .int .i64 0, .string ⟨#[]⟩, .slice none 0 0] 28)) := hWB
  clear hWB
  go_enter Tryz.func17, Tryz.ntmps17
  go_wp2_with (first
    | (go_at_call 10; refine hSh.mono ?_; rintro x w4 ⟨rfl, hb4⟩
       have hrs4 := (hb4.block (w.heap.size + 1) (by omega) ).trans hrs3
       have hev4 := (hb4.block w2.heap.size (by simp)).trans hev
       have lc := six_all hev4
       have ic := six_all hrs4; have zc := six_fz hrs4)
    | (go_at_call 34; refine hRd.mono ?_; rintro x w2 ⟨⟨p2, rfl, hI2⟩, hb2⟩
       obtain ⟨a0, a1, a2, b3, a4, n5, n6, a7, p8, n8, c8, p9, n9, c9, p10, n10, c10, p11, n11, c11, n12, n13, a14, p15, n15, c15, hv⟩ := six_of E1 p2
       have HV : Hid (valE E1 p2 = .agg #[.string a0, .string a1, .string a2, .bool b3, .string a4, .int .i64 n5, .int .i64 n6, .string a7, .slice p8 n8 c8, .slice p9 n9 c9, .slice p10 n10 c10, .slice p11 n11 c11, .int .i64 n12, .int .i64 n13, .string a14, .slice p15 n15 c15]) := hv
       rw [hv]
       have hw2 := below_in HBW.out (below_in hb1 hb2)
       have s2 := (below_in hb1 hb2).size
       have hsb1 := hb1.size
       have hsb2 := hb2.size
       have hI3 := hI2.carry (O' := fun q => O q ∨ (WB.heap.size ≤ q ∧ q < (w2.alloc (.cells #[.string a0, .string a1, .string a2, .bool b3, .string a4, .int .i64 n5, .int .i64 n6, .string a7, .slice p8 n8 c8, .slice p9 n9 c9, .slice p10 n10 c10, .slice p11 n11 c11, .int .i64 n12, .int .i64 n13, .string a14, .slice p15 n15 c15] 28)).heap.size)) (w' := w2.alloc (.cells #[.string a0, .string a1, .string a2, .bool b3, .string a4, .int .i64 n5, .int .i64 n6, .string a7, .slice p8 n8 c8, .slice p9 n9 c9, .slice p10 n10 c10, .slice p11 n11 c11, .int .i64 n12, .int .i64 n13, .string a14, .slice p15 n15 c15] 28)) fun q hq => by
         have hlt : q < w2.heap.size ∧ (O q ∨ WB.heap.size ≤ q) := by
           rcases hq with (h | h) | h
           · exact ⟨by have := HO.out q h; omega, .inl h⟩
           · exact ⟨by have := h.2; omega, .inr h.1⟩
           · exact ⟨h.2, .inr (by have := h.1; omega)⟩
         exact ⟨hlt.2.elim .inl fun h => .inr ⟨h, by simp; omega⟩, Below.heap_alloc _ _ _ hlt.1⟩
       have hb3 : Below w.heap.size w (w2.alloc (.cells #[.string a0, .string a1, .string a2, .bool b3, .string a4, .int .i64 n5, .int .i64 n6, .string a7, .slice p8 n8 c8, .slice p9 n9 c9, .slice p10 n10 c10, .slice p11 n11 c11, .int .i64 n12, .int .i64 n13, .string a14, .slice p15 n15 c15] 28)) := hw2.alloc hw2.size _
       have hSh := HSh.out _ _ (hI3.carry fun q hq => ⟨hq.elim (fun h => by have := HO.out q h; simp; omega) fun h => h.2, rfl⟩) hb3
       have hev := heap_alloc_new w2 (.cells #[.string a0, .string a1, .string a2, .bool b3, .string a4, .int .i64 n5, .int .i64 n6, .string a7, .slice p8 n8 c8, .slice p9 n9 c9, .slice p10 n10 c10, .slice p11 n11 c11, .int .i64 n12, .int .i64 n13, .string a14, .slice p15 n15 c15] 28)
       have hrs3 := ((below_in hb1 hb2).alloc (Nat.le_trans (Nat.le_refl _) s2) (.cells #[.string a0, .string a1, .string a2, .bool b3, .string a4, .int .i64 n5, .int .i64 n6, .string a7, .slice p8 n8 c8, .slice p9 n9 c9, .slice p10 n10 c10, .slice p11 n11 c11, .int .i64 n12, .int .i64 n13, .string a14, .slice p15 n15 c15] 28)).block (w.heap.size + 1) (by omega) |>.trans hrs
       have hsz3 : w.heap.size + 2 ≤ (w2.alloc (.cells #[.string a0, .string a1, .string a2, .bool b3, .string a4, .int .i64 n5, .int .i64 n6, .string a7, .slice p8 n8 c8, .slice p9 n9 c9, .slice p10 n10 c10, .slice p11 n11 c11, .int .i64 n12, .int .i64 n13, .string a14, .slice p15 n15 c15] 28)).heap.size := by simp; omega
       rw [hv] at hSh
       clear hv
       skip)
    | (go_at_call 32; refine hOr.mono ?_; rintro x w1 ⟨⟨kr, ir, tr, pr, nr, cr, qr, mr, dr, rfl, hj1⟩, hb1⟩
       rw [← HWB.out] at hb1
       have hRd := HRd.out w1 kr ir tr pr nr cr qr mr dr hb1 (by rw [← HWB.out] at hj1; exact hj1)))
  have h16 := set16_heap hrs4 (.string ⟨#[]⟩) (.string ⟨#[]⟩) (.string ⟨#[]⟩) (.bool false) (.string ⟨#[]⟩) (.int .i64 0) (.int .i64 0) (.string ⟨#[]⟩) (.slice none 0 0) (.slice none 0 0) (.slice none 0 0) (.slice none 0 0) (.int .i64 0) (.int .i64 0) (.string ⟨#[]⟩) (.slice none 0 0)
  have HK16 : Keep (One (w.heap.size + 1)) _ _ := set16_keep w4 (w.heap.size + 1) (.string ⟨#[]⟩) (.string ⟨#[]⟩) (.string ⟨#[]⟩) (.bool false) (.string ⟨#[]⟩) (.int .i64 0) (.int .i64 0) (.string ⟨#[]⟩) (.slice none 0 0) (.slice none 0 0) (.slice none 0 0) (.slice none 0 0) (.int .i64 0) (.int .i64 0) (.string ⟨#[]⟩) (.slice none 0 0)
  obtain ⟨WE, hWE⟩ : ∃ WE, WE = set16 w4 (w.heap.size + 1) (.string ⟨#[]⟩) (.string ⟨#[]⟩) (.string ⟨#[]⟩) (.bool false) (.string ⟨#[]⟩) (.int .i64 0) (.int .i64 0) (.string ⟨#[]⟩) (.slice none 0 0) (.slice none 0 0) (.slice none 0 0) (.slice none 0 0) (.int .i64 0) (.int .i64 0) (.string ⟨#[]⟩) (.slice none 0 0) := ⟨_, rfl⟩
  rw [← hWE] at h16 HK16
  unfold set16 at hWE
  rw [← hWE]
  clear hWE
  refine bodyPost_ret (results_cell_tmp rfl _ _ _ rfl (loadE h16)) rfl ?_
  have hwF : Below w.heap.size w w4 := below_in hb3 hb4
  have hszF := hwF.size
  have hbE : Below w.heap.size w WE := hwF.trans (HK16.below (by omega) fun q hq => by unfold One; omega)
  rw [HF.out]
  exact ⟨⟨Pt.zero, rfl, isE_zero _ _⟩, hbE⟩
end Go.Proofs.YtegcgbjjpgjnmaaGreatDoor
namespace Go.Proofs.YtegcgbjjpgjnmaaGreatDoor
open Go.RowKit Go.Maps
set_option maxRecDepth 100000 in
set_option maxHeartbeats 16000000 in
theorem from_ok {O : Nat → Prop} {w : World} {j : J} {k i : Int} {t : ByteArray} {pk pl : Option Addr} {nk ck nl cl : Nat} (hO : ∀ x, O x → x < w.heap.size) (hj : isJ O w j [.int .i64 k, .int .i64 i, .string t, .slice pk nk ck, .slice pl nl cl]) (hs : szJ 12 j = true) (hn : (ordT j).keys.length ≤ 80000) (hT : Tabs w) (hr : readOk (ordT j) = true) (hx : shapeE (readE (ordT j)) = 0) :
    Calls Tryz.prog 17 #[.agg #[.int .i64 k, .int .i64 i, .string t, .slice pk nk ck, .slice pl nl cl]] w fun x w' => (∃ p, x = .returned (.tuple #[valE (fromE (ordT j)).1 p, .int .i64 (fromE (ordT j)).2]) ∧ IsE (fun q => O q ∨ New w w' q) w' (fromE (ordT j)).1 p) ∧ Below w.heap.size w w' := by
  have hN := ordT_neat hs
  have hSz := neat_read hN.1 hN.2
  have HF : Hid (fromE (ordT j) = (readE (ordT j), 0)) := by
    show _ = _
    unfold fromE
    rw [if_pos hr, if_pos hx]
  obtain ⟨J1, hJ1⟩ : ∃ J1, ordT j = J1 := ⟨_, rfl⟩
  obtain ⟨WB, hWB⟩ : ∃ WB, WB = (w.alloc (.cells #[.int .i64 k, .int .i64 i, .string t, .slice pk nk ck, .slice pl nl cl] 25)).alloc (.cells #[.string ⟨#[]⟩, .string ⟨#[]⟩, .string ⟨#[]⟩, .bool false, .string ⟨#[]⟩, .int .i64 0, .int .i64 0, .string ⟨#[]⟩, .slice none 0 0, .slice none 0 0, .slice none 0 0, .slice none 0 0, .int .i64 0, .int .i64 0, .string ⟨#[]⟩, .slice none 0 0] 28) := ⟨_, rfl⟩
  have hbw : Below w.heap.size w WB := by rw [hWB]; exact ((Below.refl _ _).alloc (Nat.le_refl _) _).alloc (by simp) _
  have hrs : WB.heap[w.heap.size + 1]? = some (.cells #[.string ⟨#[]⟩, .string ⟨#[]⟩, .string ⟨#[]⟩, .bool false, .string ⟨#[]⟩, .int .i64 0, .int .i64 0, .string ⟨#[]⟩, .slice none 0 0, .slice none 0 0, .slice none 0 0, .slice none 0 0, .int .i64 0, .int .i64 0, .string ⟨#[]⟩, .slice none 0 0] 28 (0, 0)) := by rw [hWB]; exact two_at _ _
  have hsB1 : w.heap.size + 2 ≤ WB.heap.size := by rw [hWB]; simp
  have hOr := order_new (w := WB) (O := O) (fun x hx => Nat.lt_of_lt_of_le (hO x hx) hbw.size) hs (hj.carry fun x hx => ⟨hx, hbw.block x (hO x hx)⟩)
  rw [hJ1] at hOr hN hSz hr hn HF ⊢
  rw [hJ1] at hx
  have HTB : Hid (Tabs w) := hT
  have HBW : Hid (Below w.heap.size w WB) := hbw
  have HRd : Hid (∀ W k i t pk nk ck pl nl cl, Below WB.heap.size WB W → isJ (fun b => O b ∨ New WB W b) W J1 [.int .i64 k, .int .i64 i, .string t, .slice pk nk ck, .slice pl nl cl] → Calls Tryz.prog 34 #[.agg #[.int .i64 k, .int .i64 i, .string t, .slice pk nk ck, .slice pl nl cl]] W fun x w' => (∃ p, x = .returned (.tuple #[valE (readE J1) p, .bool (readOk J1)]) ∧ IsE (fun q => (O q ∨ New WB W q) ∨ New W w' q) w' (readE J1) p) ∧ Below W.heap.size W w') := fun W k i t pk nk ck pl nl cl hb h => read_any (fun x hx => hx.elim (fun hx => Nat.lt_of_lt_of_le (hO x hx) (Nat.le_trans hbw.size hb.size)) fun hx => hx.2) h hN.1 hN.2 hn
  have HSh : Hid (∀ W p, IsE (fun q => q < W.heap.size) W (readE J1) p → Below w.heap.size w W → Calls Tryz.prog 10 #[valE (readE J1) p] W fun x w' => x = .returned (.int .i64 (shapeE (readE J1))) ∧ Below W.heap.size W w') := fun W p h hb => eShape_any _ p W h (fun _ h => h) hSz (hT.below hb)
  obtain ⟨E1, hE1⟩ : ∃ E1, readE J1 = E1 := ⟨_, rfl⟩
  rw [hE1] at HRd HSh HF hx
  rw [hr] at HRd
  have HO : Hid (∀ k, O k → k < w.heap.size) := hO
  clear hj hs hN hSz hT hO hbw hJ1 hE1 hr hn
  rw [hWB] at hOr
  have HWB : Hid (WB = (w.alloc (.cells #[.int .i64 k, .int .i64 i, .string t, .slice pk nk ck, .slice pl nl cl] 25)).alloc (.cells #[.string ⟨#[]⟩, .string ⟨#[]⟩, .string ⟨#[]⟩, .bool false, .string ⟨#[]⟩, .int .i64 0, .int .i64 0, .string ⟨#[]⟩, .slice none 0 0, .slice none 0 0, .slice none 0 0, .slice none 0 0, .int .i64 0, .int .i64 0, .string ⟨#[]⟩, .slice none 0 0] 28)) := hWB
  clear hWB
  go_enter Tryz.func17, Tryz.ntmps17
  go_wp2_with (first
    | (go_at_call 10; refine hSh.mono ?_; rintro x w4 ⟨rfl, hb4⟩
       have hrs4 := (hb4.block (w.heap.size + 1) (by omega) ).trans hrs3
       have hev4 := (hb4.block w2.heap.size (by simp)).trans hev
       have lc := six_all hev4
       have ic := six_all hrs4; have zc := six_fz hrs4)
    | (go_at_call 34; refine hRd.mono ?_; rintro x w2 ⟨⟨p2, rfl, hI2⟩, hb2⟩
       obtain ⟨a0, a1, a2, b3, a4, n5, n6, a7, p8, n8, c8, p9, n9, c9, p10, n10, c10, p11, n11, c11, n12, n13, a14, p15, n15, c15, hv⟩ := six_of E1 p2
       have HV : Hid (valE E1 p2 = .agg #[.string a0, .string a1, .string a2, .bool b3, .string a4, .int .i64 n5, .int .i64 n6, .string a7, .slice p8 n8 c8, .slice p9 n9 c9, .slice p10 n10 c10, .slice p11 n11 c11, .int .i64 n12, .int .i64 n13, .string a14, .slice p15 n15 c15]) := hv
       rw [hv]
       have hw2 := below_in HBW.out (below_in hb1 hb2)
       have s2 := (below_in hb1 hb2).size
       have hsb1 := hb1.size
       have hsb2 := hb2.size
       have hI3 := hI2.carry (O' := fun q => O q ∨ (WB.heap.size ≤ q ∧ q < (w2.alloc (.cells #[.string a0, .string a1, .string a2, .bool b3, .string a4, .int .i64 n5, .int .i64 n6, .string a7, .slice p8 n8 c8, .slice p9 n9 c9, .slice p10 n10 c10, .slice p11 n11 c11, .int .i64 n12, .int .i64 n13, .string a14, .slice p15 n15 c15] 28)).heap.size)) (w' := w2.alloc (.cells #[.string a0, .string a1, .string a2, .bool b3, .string a4, .int .i64 n5, .int .i64 n6, .string a7, .slice p8 n8 c8, .slice p9 n9 c9, .slice p10 n10 c10, .slice p11 n11 c11, .int .i64 n12, .int .i64 n13, .string a14, .slice p15 n15 c15] 28)) fun q hq => by
         have hlt : q < w2.heap.size ∧ (O q ∨ WB.heap.size ≤ q) := by
           rcases hq with (h | h) | h
           · exact ⟨by have := HO.out q h; omega, .inl h⟩
           · exact ⟨by have := h.2; omega, .inr h.1⟩
           · exact ⟨h.2, .inr (by have := h.1; omega)⟩
         exact ⟨hlt.2.elim .inl fun h => .inr ⟨h, by simp; omega⟩, Below.heap_alloc _ _ _ hlt.1⟩
       have hb3 : Below w.heap.size w (w2.alloc (.cells #[.string a0, .string a1, .string a2, .bool b3, .string a4, .int .i64 n5, .int .i64 n6, .string a7, .slice p8 n8 c8, .slice p9 n9 c9, .slice p10 n10 c10, .slice p11 n11 c11, .int .i64 n12, .int .i64 n13, .string a14, .slice p15 n15 c15] 28)) := hw2.alloc hw2.size _
       have hSh := HSh.out _ _ (hI3.carry fun q hq => ⟨hq.elim (fun h => by have := HO.out q h; simp; omega) fun h => h.2, rfl⟩) hb3
       have hev := heap_alloc_new w2 (.cells #[.string a0, .string a1, .string a2, .bool b3, .string a4, .int .i64 n5, .int .i64 n6, .string a7, .slice p8 n8 c8, .slice p9 n9 c9, .slice p10 n10 c10, .slice p11 n11 c11, .int .i64 n12, .int .i64 n13, .string a14, .slice p15 n15 c15] 28)
       have hrs3 := ((below_in hb1 hb2).alloc (Nat.le_trans (Nat.le_refl _) s2) (.cells #[.string a0, .string a1, .string a2, .bool b3, .string a4, .int .i64 n5, .int .i64 n6, .string a7, .slice p8 n8 c8, .slice p9 n9 c9, .slice p10 n10 c10, .slice p11 n11 c11, .int .i64 n12, .int .i64 n13, .string a14, .slice p15 n15 c15] 28)).block (w.heap.size + 1) (by omega) |>.trans hrs
       have hsz3 : w.heap.size + 2 ≤ (w2.alloc (.cells #[.string a0, .string a1, .string a2, .bool b3, .string a4, .int .i64 n5, .int .i64 n6, .string a7, .slice p8 n8 c8, .slice p9 n9 c9, .slice p10 n10 c10, .slice p11 n11 c11, .int .i64 n12, .int .i64 n13, .string a14, .slice p15 n15 c15] 28)).heap.size := by simp; omega
       rw [hv] at hSh
       clear hv
       skip)
    | (go_at_call 32; refine hOr.mono ?_; rintro x w1 ⟨⟨kr, ir, tr, pr, nr, cr, qr, mr, dr, rfl, hj1⟩, hb1⟩
       rw [← HWB.out] at hb1
       have hRd := HRd.out w1 kr ir tr pr nr cr qr mr dr hb1 (by rw [← HWB.out] at hj1; exact hj1)))
  have h16 := set16_heap hrs4 (.string a0) (.string a1) (.string a2) (.bool b3) (.string a4) (.int .i64 n5) (.int .i64 n6) (.string a7) (.slice p8 n8 c8) (.slice p9 n9 c9) (.slice p10 n10 c10) (.slice p11 n11 c11) (.int .i64 n12) (.int .i64 n13) (.string a14) (.slice p15 n15 c15)
  have HK16 : Keep (One (w.heap.size + 1)) _ _ := set16_keep w4 (w.heap.size + 1) (.string a0) (.string a1) (.string a2) (.bool b3) (.string a4) (.int .i64 n5) (.int .i64 n6) (.string a7) (.slice p8 n8 c8) (.slice p9 n9 c9) (.slice p10 n10 c10) (.slice p11 n11 c11) (.int .i64 n12) (.int .i64 n13) (.string a14) (.slice p15 n15 c15)
  obtain ⟨WE, hWE⟩ : ∃ WE, WE = set16 w4 (w.heap.size + 1) (.string a0) (.string a1) (.string a2) (.bool b3) (.string a4) (.int .i64 n5) (.int .i64 n6) (.string a7) (.slice p8 n8 c8) (.slice p9 n9 c9) (.slice p10 n10 c10) (.slice p11 n11 c11) (.int .i64 n12) (.int .i64 n13) (.string a14) (.slice p15 n15 c15) := ⟨_, rfl⟩
  rw [← hWE] at h16 HK16
  unfold set16 at hWE
  rw [← hWE]
  clear hWE
  refine bodyPost_ret (results_cell_tmp rfl _ _ _ rfl (loadE h16)) rfl ?_
  have hwF : Below w.heap.size w w4 := below_in hb3 hb4
  have hszF := hwF.size
  have hbE : Below w.heap.size w WE := hwF.trans (HK16.below (by omega) fun q hq => by unfold One; omega)
  rw [HF.out]
  refine ⟨⟨p2, by rw [HV.out]; rfl, hI3.carry fun q hq => ?_⟩, hbE⟩
  have hs4 := hb4.size
  have hse := HK16.size
  have hq3 : q < (w2.alloc (.cells #[.string a0, .string a1, .string a2, .bool b3, .string a4, .int .i64 n5, .int .i64 n6, .string a7, .slice p8 n8 c8, .slice p9 n9 c9, .slice p10 n10 c10, .slice p11 n11 c11, .int .i64 n12, .int .i64 n13, .string a14, .slice p15 n15 c15] 28)).heap.size := by rcases hq with h | h; have := HO.out q h; simp; omega; exact h.2
  refine ⟨?_, (HK16.block q (by omega) (by unfold One; rcases hq with h | h; have := HO.out q h; omega; have := h.1; omega)).trans (hb4.block q hq3)⟩
  rcases hq with h | h
  · exact .inl h
  · exact .inr ⟨by have := h.1; omega, by omega⟩
end Go.Proofs.YtegcgbjjpgjnmaaGreatDoor
namespace Go.Proofs.YtegcgbjjpgjnmaaGreatDoor
open Go.RowKit Go.Maps
theorem fromJson_any {O : Nat → Prop} {w : World} {j : J} {k i : Int} {t : ByteArray} {pk pl : Option Addr} {nk ck nl cl : Nat} (hO : ∀ x, O x → x < w.heap.size) (hj : isJ O w j [.int .i64 k, .int .i64 i, .string t, .slice pk nk ck, .slice pl nl cl]) (hs : szJ 12 j = true) (hn : (ordT j).keys.length ≤ 80000) (hT : Tabs w) :
    Calls Tryz.prog 17 #[.agg #[.int .i64 k, .int .i64 i, .string t, .slice pk nk ck, .slice pl nl cl]] w fun x w' => (∃ p, x = .returned (.tuple #[valE (fromE (ordT j)).1 p, .int .i64 (fromE (ordT j)).2]) ∧ IsE (fun q => O q ∨ New w w' q) w' (fromE (ordT j)).1 p) ∧ Below w.heap.size w w' := by
  cases hr : readOk (ordT j) with
  | false => exact from_no hO hj hs hn hT hr
  | true =>
    by_cases hx : shapeE (readE (ordT j)) = 0
    · exact from_ok hO hj hs hn hT hr hx
    · exact from_bad hO hj hs hn hT hr hx
set_option maxRecDepth 100000 in
set_option maxHeartbeats 16000000 in
theorem eDecode_ok {w : World} {p : Option Addr} {c : Nat} {rs : List Int} {j : J} {q0 : Nat} (hrd : Rd w.heap.size w p c rs) (hn : rs.length ≤ 1000000) (hd : decode rs = .ok j q0) (hb : Bytes rs) (hk : (ordT j).keys.length ≤ 80000) (hT : Tabs w) :
    Calls Tryz.prog 21 #[.slice p rs.length c] w fun x w' => (∃ pt, x = .returned (.tuple #[valE (fromE (ordT j)).1 pt, .int .i64 (fromE (ordT j)).2]) ∧ IsE (New w w') w' (fromE (ordT j)).1 pt) ∧ Below w.heap.size w w' := by
  have hfit := decode_fit hb hd
  obtain ⟨WB, hWB⟩ : ∃ WB, WB = w.alloc (.cells #[.string ⟨#[]⟩, .string ⟨#[]⟩, .string ⟨#[]⟩, .bool false, .string ⟨#[]⟩, .int .i64 0, .int .i64 0, .string ⟨#[]⟩, .slice none 0 0, .slice none 0 0, .slice none 0 0, .slice none 0 0, .int .i64 0, .int .i64 0, .string ⟨#[]⟩, .slice none 0 0] 28) := ⟨_, rfl⟩
  have hbw : Below w.heap.size w WB := by rw [hWB]; exact (Below.refl _ _).alloc (Nat.le_refl _) _
  have hrs : WB.heap[w.heap.size]? = some (.cells #[.string ⟨#[]⟩, .string ⟨#[]⟩, .string ⟨#[]⟩, .bool false, .string ⟨#[]⟩, .int .i64 0, .int .i64 0, .string ⟨#[]⟩, .slice none 0 0, .slice none 0 0, .slice none 0 0, .slice none 0 0, .int .i64 0, .int .i64 0, .string ⟨#[]⟩, .slice none 0 0] 28 (0, 0)) := by rw [hWB]; exact heap_alloc_new _ _
  have hsB1 : w.heap.size + 1 ≤ WB.heap.size := by rw [hWB]; simp
  have hrB : Rd WB.heap.size WB p c rs := ⟨hrd.1, hrd.2.1, fun j hj => by
    obtain ⟨a, e1, e2, e3⟩ := hrd.2.2 j hj
    exact ⟨a, e1, by omega, (World.cell?_of_block (by rw [add_block]; exact hbw.block _ e2)).trans e3⟩⟩
  have hDe := decode_any hrB hn
  rw [hd] at hDe
  have HFr : Hid (∀ W W1 k i t pk nk ck pl nl cl, Below WB.heap.size WB W → Below W.heap.size W W1 → isJ (New WB W) W j [.int .i64 k, .int .i64 i, .string t, .slice pk nk ck, .slice pl nl cl] → Calls Tryz.prog 17 #[.agg #[.int .i64 k, .int .i64 i, .string t, .slice pk nk ck, .slice pl nl cl]] W1 fun x w' => (∃ p, x = .returned (.tuple #[valE (fromE (ordT j)).1 p, .int .i64 (fromE (ordT j)).2]) ∧ IsE (fun q => New WB W q ∨ New W1 w' q) w' (fromE (ordT j)).1 p) ∧ Below W1.heap.size W1 w') := fun W W1 k i t pk nk ck pl nl cl h1 h2 hj =>
    fromJson_any (fun x hx => Nat.lt_of_lt_of_le hx.2 h2.size) (hj.carry fun x hx => ⟨hx, h2.block x hx.2⟩) hfit.2.2 hk (hT.below (below_in hbw (below_in h1 h2)))
  obtain ⟨F, hF⟩ : ∃ F, fromE (ordT j) = F := ⟨_, rfl⟩
  rw [hF] at HFr ⊢
  obtain ⟨E1, er⟩ := F
  simp only at HFr ⊢
  have HBW : Hid (Below w.heap.size w WB) := hbw
  have HWB : Hid (WB = w.alloc (.cells #[.string ⟨#[]⟩, .string ⟨#[]⟩, .string ⟨#[]⟩, .bool false, .string ⟨#[]⟩, .int .i64 0, .int .i64 0, .string ⟨#[]⟩, .slice none 0 0, .slice none 0 0, .slice none 0 0, .slice none 0 0, .int .i64 0, .int .i64 0, .string ⟨#[]⟩, .slice none 0 0] 28)) := hWB
  rw [hWB] at hDe
  clear hF hd hb hk hT hfit hrB hrd hbw hWB
  go_enter Tryz.func21, Tryz.ntmps21
  go_wp2_with (first
    | (go_at_call 17; refine hFr.mono ?_; rintro x w4 ⟨⟨p4, rfl, hI4⟩, hb4⟩
       obtain ⟨a0, a1, a2, b3, a4, n5, n6, a7, p8, n8, c8, p9, n9, c9, p10, n10, c10, p11, n11, c11, n12, n13, a14, p15, n15, c15, hv⟩ := six_of E1 p4
       have HV : Hid (valE E1 p4 = .agg #[.string a0, .string a1, .string a2, .bool b3, .string a4, .int .i64 n5, .int .i64 n6, .string a7, .slice p8 n8 c8, .slice p9 n9 c9, .slice p10 n10 c10, .slice p11 n11 c11, .int .i64 n12, .int .i64 n13, .string a14, .slice p15 n15 c15]) := hv
       rw [hv]
       clear hv
       have hrs4 := (hb4.block w.heap.size (by simp; omega)).trans ((Below.heap_alloc w1 _ w.heap.size (by omega)).trans ((hb1.block w.heap.size (by omega)).trans hrs))
       have ic := six_all hrs4; have zc := six_fz hrs4)
    | (go_at_call 40; refine hDe.mono ?_; rintro x w1 ⟨⟨k1, i1, t1, pk1, nk1, ck1, pl1, nl1, cl1, rfl, hj1⟩, hb1⟩
       rw [← HWB.out] at hb1 hj1
       have hs1 := hb1.size
       have hFr := HFr.out w1 (w1.alloc (.cells #[.int .i64 k1, .int .i64 i1, .string t1, .slice pk1 nk1 ck1, .slice pl1 nl1 cl1] 25)) k1 i1 t1 pk1 nk1 ck1 pl1 nl1 cl1 hb1 ((Below.refl _ _).alloc (Nat.le_refl _) _) hj1))
  have h16 := set16_heap hrs4 (.string a0) (.string a1) (.string a2) (.bool b3) (.string a4) (.int .i64 n5) (.int .i64 n6) (.string a7) (.slice p8 n8 c8) (.slice p9 n9 c9) (.slice p10 n10 c10) (.slice p11 n11 c11) (.int .i64 n12) (.int .i64 n13) (.string a14) (.slice p15 n15 c15)
  have HK16 : Keep (One w.heap.size) _ _ := set16_keep w4 w.heap.size (.string a0) (.string a1) (.string a2) (.bool b3) (.string a4) (.int .i64 n5) (.int .i64 n6) (.string a7) (.slice p8 n8 c8) (.slice p9 n9 c9) (.slice p10 n10 c10) (.slice p11 n11 c11) (.int .i64 n12) (.int .i64 n13) (.string a14) (.slice p15 n15 c15)
  obtain ⟨WE, hWE⟩ : ∃ WE, WE = set16 w4 w.heap.size (.string a0) (.string a1) (.string a2) (.bool b3) (.string a4) (.int .i64 n5) (.int .i64 n6) (.string a7) (.slice p8 n8 c8) (.slice p9 n9 c9) (.slice p10 n10 c10) (.slice p11 n11 c11) (.int .i64 n12) (.int .i64 n13) (.string a14) (.slice p15 n15 c15) := ⟨_, rfl⟩
  rw [← hWE] at h16 HK16
  unfold set16 at hWE
  rw [← hWE]
  clear hWE
  refine bodyPost_ret (results_cell_tmp rfl _ _ _ rfl (loadE h16)) rfl ?_
  have hw4 : Below w.heap.size w w4 := below_in HBW.out (below_in hb1 (below_in ((Below.refl _ _).alloc (Nat.le_refl _) _) hb4))
  have hs4 := hb4.size
  simp at hs4
  have hse := HK16.size
  have hbE : Below w.heap.size w WE := hw4.trans (HK16.below hw4.size fun q hq => by unfold One; omega)
  refine ⟨⟨p4, by rw [HV.out]; rfl, hI4.carry fun q hq => ?_⟩, hbE⟩
  have hq4 : q < w4.heap.size ∧ WB.heap.size ≤ q := by
    rcases hq with h | h
    · exact ⟨by have := h.2; omega, h.1⟩
    · exact ⟨h.2, by have := h.1; simp at this; omega⟩
  exact ⟨⟨by omega, by omega⟩, HK16.block q hq4.1 (by unfold One; omega)⟩
end Go.Proofs.YtegcgbjjpgjnmaaGreatDoor
namespace Go.Proofs.YtegcgbjjpgjnmaaGreatDoor
open Go.RowKit Go.Maps
theorem results_cell {fn : Func} {a : Tmp} {t : TypeId} (h : fn.results = #[.cell a t]) (tmps : Array Value) (P : Program) (w : World) {ad : Addr} {v : Value} (hp : tmps.getD a undef = .pointer (some ad)) (hl : (loadVar t ad).run P w = .ok v w) :
    (results fn tmps).run P w = .ok v w := by
  rw [Array.getD_eq_getD_getElem?] at hp
  simp [results, h, hp, hl, asAddr]
set_option maxRecDepth 100000 in
set_option maxHeartbeats 4000000 in
theorem sample_any (w : World) : Calls Tryz.prog 26 #[] w fun x w' => x = .returned (valE sampleE Pt.zero) ∧ Below w.heap.size w w' := by
  have h16 := heap_alloc_new w (.cells #[.string sRoom, .string sType, .string sSender, .bool false, .string ⟨#[]⟩, .int .i64 5, .int .i64 0, .string ⟨#[]⟩, .slice none 0 0, .slice none 0 0, .slice none 0 0, .slice none 0 0, .int .i64 0, .int .i64 0, .string ⟨#[]⟩, .slice none 0 0] 28)
  go_enter Tryz.func26, Tryz.ntmps26
  go_wp2
  refine bodyPost_ret (results_cell rfl _ _ _ rfl (loadE h16)) rfl ?_
  exact ⟨rfl, (Below.refl _ _).alloc (Nat.le_refl _) _⟩
end Go.Proofs.YtegcgbjjpgjnmaaGreatDoor
namespace Go.Proofs.YtegcgbjjpgjnmaaGreatDoor
open Go.RowKit
set_option maxRecDepth 100000 in
set_option maxHeartbeats 4000000 in
theorem loadAtE {w : World} {b : Nat} {t : TypeId} {u0 u1 u2 u3 u4 u5 u6 u7 u8 u9 u10 u11 u12 u13 u14 u15 : Value} (h : w.heap[b]? = some (.cells #[u0, u1, u2, u3, u4, u5, u6, u7, u8, u9, u10, u11, u12, u13, u14, u15] t (0, 0))) : (Instr.loadAt 28 (.pointer (some ⟨b, 0, none⟩))).run Tryz.prog w = .ok (.agg #[u0, u1, u2, u3, u4, u5, u6, u7, u8, u9, u10, u11, u12, u13, u14, u15]) w := by
  have k0 := six_c h 0 _ rfl; have k1 := six_c h 1 _ rfl; have k2 := six_c h 2 _ rfl; have k3 := six_c h 3 _ rfl; have k4 := six_c h 4 _ rfl; have k5 := six_c h 5 _ rfl; have k6 := six_c h 6 _ rfl; have k7 := six_c h 7 _ rfl; have k8 := six_c h 8 _ rfl; have k9 := six_c h 9 _ rfl; have k10 := six_c h 10 _ rfl; have k11 := six_c h 11 _ rfl; have k12 := six_c h 12 _ rfl; have k13 := six_c h 13 _ rfl; have k14 := six_c h 14 _ rfl; have k15 := six_c h 15 _ rfl
  simp [Instr.loadAt, go_sem, k0, k1, k2, k3, k4, k5, k6, k7, k8, k9, k10, k11, k12, k13, k14, k15]
section
variable {w : World} {ops : Array Oper} {rest : List Oper} {o : Oper} {a : Act} {Q : Exit → Act → World → Prop} {b : Nat} {t : TypeId} {u0 u1 u2 u3 u4 u5 u6 u7 u8 u9 u10 u11 u12 u13 u14 u15 : Value}
theorem wpList_load16 (hg : o.guard = none) (m : Operand) (hop : o.op = Op.load 28 m) (hm : a.eval m = .pointer (some ⟨b, 0, none⟩)) (h : w.heap[b]? = some (.cells #[u0, u1, u2, u3, u4, u5, u6, u7, u8, u9, u10, u11, u12, u13, u14, u15] t (0, 0)))
    (hK : wpList Tryz.prog ops Q rest (a.put o.dst (.agg #[u0, u1, u2, u3, u4, u5, u6, u7, u8, u9, u10, u11, u12, u13, u14, u15])) w) : wpList Tryz.prog ops Q (o :: rest) a w := by
  refine wpList_plain hg fun K' hK' => ?_
  have hl := loadAtE h
  unfold Oper.wp
  simp [execOp, hop, hm, hl, Result.andThen]
  exact hK' _ _ hK
end
end Go.Proofs.YtegcgbjjpgjnmaaGreatDoor
