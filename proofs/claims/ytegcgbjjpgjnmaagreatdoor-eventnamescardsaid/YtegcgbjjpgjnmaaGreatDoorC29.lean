/-
  The event of a value, of bytes: by contracts.
  An event's JSON, read: the event, its content in order.
  An event that is loaded, or stored, as one operation.
  Whether two values are the same, by a contract.
  Rows that are the same, and events that are: by contracts.
  Events that are the same, without signatures: by a contract.
  The events of the law's examples.
-/
import Derived.Test.YtegcgbjjpgjnmaaGreatDoorC28
set_option maxRecDepth 100000
set_option maxHeartbeats 16000000
namespace Go.Proofs.YtegcgbjjpgjnmaaGreatDoor
open Go.RowKit Go.Maps
theorem sz_ordL {d : Nat} (ih : ∀ j, goodJ d j = true → szJ d j = true → szJ d (ord j) = true) : ∀ l : List J, l.all (goodJ d) = true → l.all (szJ d) = true → (ordL l).all (szJ d) = true
 | [], _, _ => rfl
 | j :: r, hg, hs => by
  rw [List.all_cons, Bool.and_eq_true] at hg hs
  rw [ordL, List.all_cons, ih j hg.1 hs.1, sz_ordL ih r hg.2 hs.2]
  rfl
theorem sz_ord : ∀ (d : Nat) (j : J), goodJ d j = true → szJ d j = true → szJ d (ord j) = true
 | 0, j, _, _ => by unfold szJ; rfl
 | d + 1, .mk k i t ks l, hg, hs => by
  obtain ⟨hgl, hg5, hgn⟩ := good_sub hg
  unfold szJ at hs
  simp only [Bool.and_eq_true, decide_eq_true_eq] at hs
  obtain ⟨hts, hkn, hks, hll, hls⟩ := hs
  have hol := sz_ordL (sz_ord d) l hgl hls
  by_cases h5 : k = 5
  · subst h5
    have hlen : ks.length = (ordL l).length := by rw [ordL_length]; exact (hg5 rfl).1
    have p1 := sorted_keys hlen
    have p2 := sorted_vals hlen
    rw [ord, if_pos rfl]
    unfold mapOf szJ
    simp only [Bool.and_eq_true, decide_eq_true_eq]
    refine ⟨by decide, by rw [p1.length_eq]; exact hkn, ?_, by rw [p2.length_eq, ordL_length]; exact hll, ?_⟩
    · rw [List.all_eq_true] at hks ⊢
      exact fun x hx => hks x (p1.subset hx)
    · rw [List.all_eq_true] at hol ⊢
      exact fun x hx => hol x (p2.subset hx)
  · rw [ord, if_neg h5]
    unfold szJ
    simp only [Bool.and_eq_true, decide_eq_true_eq]
    exact ⟨hts, by simp, by rfl, by rw [ordL_length]; exact hll, hol⟩
theorem sz_more : ∀ (d : Nat) (j : J), goodJ d j = true → szJ d j = true → szJ (d + 1) j = true
 | 0, j, h, _ => by unfold goodJ at h; cases h
 | d + 1, .mk k i t ks l, h, hs => by
  unfold goodJ at h
  rw [Bool.and_eq_true] at h
  unfold szJ at hs ⊢
  simp only [Bool.and_eq_true] at hs ⊢
  refine ⟨hs.1, hs.2.1, hs.2.2.1, hs.2.2.2.1, ?_⟩
  rw [List.all_eq_true]
  intro x hx
  have hx2 := List.all_eq_true.1 hs.2.2.2.2 x hx
  refine sz_more d x ?_ hx2
  have hb := h.1
  unfold bare at hb
  simp only [Bool.and_eq_true, Bool.or_eq_true, decide_eq_true_eq] at hb
  rcases hb.2 with (hb | hb) | hb
  · rw [List.eq_nil_of_length_eq_zero hb] at hx; cases hx
  · subst hb
    have h2 := h.2
    simp only [show (4 : Int) = 0 ↔ False by decide, show (4 : Int) = 1 ↔ False by decide, show (4 : Int) = 2 ↔ False by decide, show (4 : Int) = 3 ↔ False by decide, if_false, if_true] at h2
    exact List.all_eq_true.1 h2 x hx
  · subst hb
    have h2 := h.2
    simp only [show (5 : Int) = 0 ↔ False by decide, show (5 : Int) = 1 ↔ False by decide, show (5 : Int) = 2 ↔ False by decide, show (5 : Int) = 3 ↔ False by decide, show (5 : Int) = 4 ↔ False by decide, if_false, if_true, Bool.and_eq_true] at h2
    exact List.all_eq_true.1 h2.2 x hx
theorem good_parts {d : Nat} {j : J} (h : goodJ (d + 1) j = true) : j.keys.length ≤ j.list.length ∧ j.keys.Pairwise (· ≠ ·) ∧ (∀ x ∈ j.list, goodJ d x = true) ∧ (j.kind ≠ 5 → j.keys = []) := by
 cases j with
 | mk k i t ks l =>
  unfold goodJ at h
  rw [Bool.and_eq_true] at h
  have hb := h.1
  unfold bare at hb
  simp only [Bool.and_eq_true, Bool.or_eq_true, decide_eq_true_eq] at hb
  simp only [J.keys, J.list, J.kind]
  have hk : k ≠ 5 → ks = [] := fun hn => by
   rcases hb.1.2 with e | e
   · exact List.eq_nil_of_length_eq_zero e
   · exact absurd e hn
  by_cases h5 : k = 5
  · subst h5
    have h2 := h.2
    simp only [show (5 : Int) = 0 ↔ False by decide, show (5 : Int) = 1 ↔ False by decide, show (5 : Int) = 2 ↔ False by decide, show (5 : Int) = 3 ↔ False by decide, show (5 : Int) = 4 ↔ False by decide, if_false, if_true, Bool.and_eq_true, decide_eq_true_eq] at h2
    exact ⟨by omega, noTwice_pair h2.1.2.2, List.all_eq_true.1 h2.2, hk⟩
  · rw [hk h5]
    refine ⟨by simp, List.Pairwise.nil, fun x hx => ?_, fun _ => rfl⟩
    rcases hb.2 with (e | e) | e
    · rw [List.eq_nil_of_length_eq_zero e] at hx; cases hx
    · subst e
      have h2 := h.2
      simp only [show (4 : Int) = 0 ↔ False by decide, show (4 : Int) = 1 ↔ False by decide, show (4 : Int) = 2 ↔ False by decide, show (4 : Int) = 3 ↔ False by decide, if_false, if_true] at h2
      exact List.all_eq_true.1 h2 x hx
    · exact absurd e h5
theorem sz_parts {d : Nat} {j : J} (h : szJ (d + 1) j = true) : j.text.size ≤ 1000000000 ∧ j.keys.length ≤ 100000 ∧ (∀ x ∈ j.keys, x.size ≤ 1000000000) ∧ j.list.length ≤ 100000 ∧ ∀ x ∈ j.list, szJ d x = true := by
 cases j with
 | mk k i t ks l =>
  unfold szJ at h
  simp only [Bool.and_eq_true, decide_eq_true_eq] at h
  obtain ⟨h1, h2, h3, h4, h5⟩ := h
  exact ⟨h1, h2, fun x hx => of_decide_eq_true (List.all_eq_true.1 h3 x hx), h4, fun x hx => List.all_eq_true.1 h5 x hx⟩
def Neat (d : Nat) (j : J) : Prop := goodJ d j = true ∧ szJ d j = true
theorem neat_zero (d : Nat) : Neat (d + 1) J.zero := ⟨by unfold J.zero goodJ bare; simp [show nix.size = 0 from rfl], by unfold J.zero szJ; rfl⟩
theorem neat_get {d : Nat} {ps : List (ByteArray × J)} (h : ∀ x ∈ ps.map (·.2), Neat (d + 1) x) (s : ByteArray) : Neat (d + 1) (getJ ps s) := by
 unfold getJ
 cases e : lookJ ps s with
 | none => exact neat_zero d
 | some j => exact h j (look_in e)
theorem neat_del {d : Nat} {ps : List (ByteArray × J)} (h : ∀ x ∈ ps.map (·.2), Neat (d + 1) x) (s : ByteArray) : ∀ x ∈ (delJ ps s).map (·.2), Neat (d + 1) x := fun x hx => h x (((del_subJ ps s).map _).subset hx)
theorem neat_tame {d : Nat} {j : J} (h : Neat (d + 1) j) : Tame j := ⟨(sz_parts h.2).2.2.2.1, (good_parts h.1).1⟩
theorem neat_read {j : J} (hg : goodJ 12 j = true) (hs : szJ 12 j = true) : SzE (readE j) := by
 have N0 : ∀ x ∈ (rP0 j).map (·.2), Neat 11 x := fun x hx => by
  obtain ⟨p, hp, rfl⟩ := List.mem_map.1 hx
  have := (List.of_mem_zip hp).2
  exact ⟨(good_parts hg).2.2.1 _ this, (sz_parts hs).2.2.2.2 _ this⟩
 have N1 := neat_del N0 nRoom
 have N2 := neat_del N1 nType
 have N3 := neat_del N2 nSender
 have N4 := neat_del N3 nContent
 have N5 := neat_del N4 nPrev
 have N6 := neat_del N5 nAuth
 have N7 := neat_del N6 nDepth
 have N8 := neat_del N7 nTs
 have N9 := neat_del N8 nHash
 have N10 := neat_del N9 nSigs
 have tx : ∀ {x : J}, Neat 11 x → (∀ y ∈ x.list.map J.text, y.size ≤ 1000000000) := fun {x} hx y hy => by
  obtain ⟨z, hz, rfl⟩ := List.mem_map.1 hy
  exact (sz_parts ((sz_parts hx.2).2.2.2.2 z hz)).1
 have g4 : Neat 11 (rG4 j) := neat_get N4 nPrev
 have g5 : Neat 11 (rG5 j) := neat_get N5 nAuth
 have g9 : Neat 11 (rG9 j) := neat_get N9 nSigs
 have g3 : Neat 11 (rG3 j) := neat_get N3 nContent
 refine ⟨(sz_parts (neat_get N0 nRoom).2).1, (sz_parts (neat_get N1 nType).2).1, (sz_parts (neat_get N2 nSender).2).1, ?_, (sz_parts (neat_get N8 nHash).2).1, sz_more 11 _ g3.1 g3.2, ?_, tx g4, ?_, tx g5, ?_, fun x hx => ?_⟩
 · show (if rSt j = true then (rG10 j).text else nix).size ≤ 1000000000
   split
   · exact (sz_parts (neat_get N10 nKey).2).1
   · decide
 · show ((rG4 j).list.map J.text).length ≤ 100000
   rw [List.length_map]; exact (sz_parts g4.2).2.2.2.1
 · show ((rG5 j).list.map J.text).length ≤ 100000
   rw [List.length_map]; exact (sz_parts g5.2).2.2.2.1
 · show (sigsOf (rG9 j)).length ≤ 100000
   rw [sigs_len (good_parts g9.1).1]; exact (sz_parts g9.2).2.1
 · have hx : x ∈ (rG9 j).keys.zip ((rG9 j).list.map J.text) := hx
   exact ⟨(sz_parts g9.2).2.2.1 _ (List.of_mem_zip hx).1, tx g9 _ (List.of_mem_zip hx).2⟩
theorem read_any {O : Nat → Prop} {w : World} {j : J} {k i : Int} {t : ByteArray} {pk pl : Option Addr} {nk ck nl cl : Nat} (hO : ∀ x, O x → x < w.heap.size) (hj : isJ O w j [.int .i64 k, .int .i64 i, .string t, .slice pk nk ck, .slice pl nl cl]) (hg : goodJ 12 j = true) (hs : szJ 12 j = true) (hn : j.keys.length ≤ 80000) :
    Calls Tryz.prog 34 #[.agg #[.int .i64 k, .int .i64 i, .string t, .slice pk nk ck, .slice pl nl cl]] w fun x w' => (∃ p, x = .returned (.tuple #[valE (readE j) p, .bool (readOk j)]) ∧ IsE (fun q => O q ∨ New w w' q) w' (readE j) p) ∧ Below w.heap.size w w' := by
 have g := good_parts hg
 have z := sz_parts hs
 have tm : ∀ x ∈ j.list, Tame x := fun x hx => neat_tame (d := 10) ⟨g.2.2.1 x hx, z.2.2.2.2 x hx⟩
 cases hst : rSt j with
 | false =>
  cases hb : rB10 j with
  | true => exact read_false_true hO hj g.1 g.2.1 hn z.2.2.2.1 z.2.2.1 tm hst hb
  | false => exact read_false_false hO hj g.1 g.2.1 hn z.2.2.2.1 z.2.2.1 tm hst hb
 | true =>
  cases hb : rB11 j with
  | true => exact read_true_true hO hj g.1 g.2.1 hn z.2.2.2.1 z.2.2.1 tm hst hb
  | false => exact read_true_false hO hj g.1 g.2.1 hn z.2.2.2.1 z.2.2.1 tm hst hb
def fromE (j : J) : Ev × Int := if readOk j = true then (if shapeE (readE j) = 0 then (readE j, 0) else (Ev.zero, shapeE (readE j))) else (Ev.zero, 50)
theorem ordT_neat {j : J} (hs : szJ 12 j = true) : Neat 12 (ordT j) := by
 unfold ordT
 split
 · rename_i h
   exact ⟨good_ord 12 j h, sz_ord 12 j h hs⟩
 · exact neat_zero 11
theorem good_more : ∀ {d : Nat} {j : J}, goodJ d j = true → goodJ (d + 1) j = true
 | 0, j, h => by unfold goodJ at h; cases h
 | d + 1, .mk k i t ks l, h => by
  unfold goodJ at h ⊢
  rw [Bool.and_eq_true] at h ⊢
  refine ⟨h.1, ?_⟩
  have h2 := h.2
  have up : l.all (goodJ d) = true → l.all (goodJ (d + 1)) = true := fun hl => List.all_eq_true.2 fun x hx => good_more (List.all_eq_true.1 hl x hx)
  split at h2
  · rw [if_pos ‹_›]
  · rw [if_neg ‹_›]
    split at h2
    · rw [if_pos ‹_›]; exact h2
    · rw [if_neg ‹_›]
      split at h2
      · rw [if_pos ‹_›]; exact h2
      · rw [if_neg ‹_›]
        split at h2
        · rw [if_pos ‹_›]; exact h2
        · rw [if_neg ‹_›]
          split at h2
          · rw [if_pos ‹_›]; exact up h2
          · rw [if_neg ‹_›]
            split at h2
            · rw [if_pos ‹_›]
              rw [Bool.and_eq_true] at h2 ⊢
              exact ⟨h2.1, up h2.2⟩
            · cases h2
def backE (e : Ev) : Ev := ⟨e.room, e.typ, e.sender, e.st, e.key, ord e.content, e.prev, e.auth, e.depth, e.ts, e.hash, e.sigs⟩
theorem ordL_texts : ∀ l : List ByteArray, ordL (l.map textJ) = l.map textJ
 | [] => rfl
 | a :: r => by
  rw [List.map_cons, ordL, ordL_texts r]
  rfl
theorem ord_texts (l : List ByteArray) : ord (textsJ l) = textsJ l := by
 show J.mk 4 0 nix [] (ordL (l.map textJ)) = _
 rw [ordL_texts]
 rfl
theorem inOrdL_texts : ∀ l : List ByteArray, inOrdL (l.map textJ) = true
 | [] => rfl
 | a :: r => by
  rw [List.map_cons, inOrdL, inOrdL_texts r]
  rfl
theorem rises_sigs : ∀ l : List (ByteArray × ByteArray), riseS l = true → rises (l.map (·.1)) = true := by
 intro l h
 have hp := rise_pair l h
 clear h
 induction l with
 | nil => rfl
 | cons a r ih =>
  rw [List.pairwise_cons] at hp
  rw [List.map_cons]
  unfold rises
  rw [ih hp.2, Bool.and_true, List.all_eq_true]
  intro x hx
  obtain ⟨y, hy, rfl⟩ := List.mem_map.1 hx
  exact hp.1 y hy
theorem map_texts (l : List (ByteArray × ByteArray)) : (l.map fun s => textJ s.2) = (l.map (·.2)).map textJ := by rw [List.map_map]; rfl
theorem inOrd_tokens {l : List (ByteArray × ByteArray)} (h : riseS l = true) : inOrd (tokensJ l) = true := by
 unfold tokensJ inOrd
 rw [rises_sigs l h, map_texts, inOrdL_texts]
 rfl
theorem ord_tokens {l : List (ByteArray × ByteArray)} (h : riseS l = true) (hl : ∀ x ∈ l, letters x.1 = true ∧ letters x.2 = true) : ord (tokensJ l) = tokensJ l :=
 ord_same 2 _ (tokens_good (d := 0) hl h) (inOrd_tokens h)
theorem vals_back {e : Ev} (hr : riseS e.sigs = true) (hl : ∀ x ∈ e.sigs, letters x.1 = true ∧ letters x.2 = true) : ordL ((pairsE e).map (·.2)) = (pairsE (backE e)).map (·.2) := by
 have h1 := ord_texts e.auth
 have h2 := ord_texts e.prev
 have h3 := ord_tokens hr hl
 obtain ⟨room, typ, sender, st, key, content, prev, auth, depth, ts, hash, sigs⟩ := e
 simp only at h1 h2 h3
 cases st
 · show [ord (textsJ auth), ord content, ord (numJ depth), ord (textJ hash), ord (textsJ prev), ord (textJ room), ord (textJ sender), ord (tokensJ sigs), ord (numJ ts), ord (textJ typ)] = _
   rw [h1, h2, h3]
   rfl
 · show [ord (textsJ auth), ord content, ord (numJ depth), ord (textJ hash), ord (textJ key), ord (textsJ prev), ord (textJ room), ord (textJ sender), ord (tokensJ sigs), ord (numJ ts), ord (textJ typ)] = _
   rw [h1, h2, h3]
   rfl
theorem keys_back (e : Ev) : (pairsE (backE e)).map (·.1) = (pairsE e).map (·.1) := by
 rw [keys_told, keys_told]
 rfl
theorem rises_names (b : Bool) : rises (if b = true then [nAuth, nContent, nDepth, nHash, nKey, nPrev, nRoom, nSender, nSigs, nTs, nType] else [nAuth, nContent, nDepth, nHash, nPrev, nRoom, nSender, nSigs, nTs, nType]) = true := by
 cases b <;> kernel_rfl
theorem inOrd_told {e : Ev} (hr : riseS e.sigs = true) (hc : inOrd e.content = true) : inOrd (toldJ e) = true := by
 unfold toldJ inOrd
 rw [keys_told, rises_names, Bool.true_and]
 have h1 := inOrdL_texts e.auth
 have h2 := inOrdL_texts e.prev
 have h3 := inOrd_tokens hr
 obtain ⟨room, typ, sender, st, key, content, prev, auth, depth, ts, hash, sigs⟩ := e
 simp only at h1 h2 h3 hc
 have g1 : inOrd (textsJ auth) = true := by unfold textsJ inOrd; rw [h1]; rfl
 have g2 : inOrd (textsJ prev) = true := by unfold textsJ inOrd; rw [h2]; rfl
 cases st
 · show (inOrd (textsJ auth) && (inOrd content && (inOrd (numJ depth) && (inOrd (textJ hash) && (inOrd (textsJ prev) && (inOrd (textJ room) && (inOrd (textJ sender) && (inOrd (tokensJ sigs) && (inOrd (numJ ts) && (inOrd (textJ typ) && true)))))))))) = true
   rw [g1, g2, h3, hc]
   rfl
 · show (inOrd (textsJ auth) && (inOrd content && (inOrd (numJ depth) && (inOrd (textJ hash) && (inOrd (textJ key) && (inOrd (textsJ prev) && (inOrd (textJ room) && (inOrd (textJ sender) && (inOrd (tokensJ sigs) && (inOrd (numJ ts) && (inOrd (textJ typ) && true))))))))))) = true
   rw [g1, g2, h3, hc]
   rfl
theorem back_shaped {e : Ev} (h : shapedE e = true) : shapedE (backE e) = true := by
 obtain ⟨p1, p2, p3, p4, p5, p6, p7, p8, p9⟩ := shaped_parts h
 have g := filled_good p3
 have hk : (ord e.content).kind = 5 := by
  obtain ⟨room, typ, sender, st, key, ⟨k, i, t, ks, l⟩, prev, auth, depth, ts, hash, sigs⟩ := e
  obtain rfl : k = 5 := g.2
  rfl
 have hf : filledE (ord e.content) = true := by
  have := good_ord 11 _ g.1
  unfold filledE
  rw [hk, decide_eq_true rfl, Bool.true_and]
  unfold goodJ
  simp [this, bare, show nix.size = 0 from rfl]
 have q1 : placedE (backE e) = true := p1
 have q2 : keyedE (backE e) = true := p2
 unfold shapedE
 rw [q1, q2]
 show (true && true && filledE (ord e.content) && namedE 20 e.prev && namedE 10 e.auth && withinE e.depth 1099511627776 && withinE e.ts maxInt && (decide (e.hash.size = 0) || digestE e.hash) && signedE e.sigs) = true
 rw [hf, p4, p5, p6, p7, p9]
 rcases p8 with p8 | p8
 · rw [decide_eq_true p8]; rfl
 · rw [p8, Bool.or_true]; rfl
theorem ord_told {e : Ev} (h : shapedE e = true) : ord (toldJ e) = toldJ (backE e) := by
 obtain ⟨_, _, _, _, _, hl, hr⟩ := letter_of h
 have hb := back_shaped h
 have hg := filled_good (shaped_parts h).2.2.1
 have e1 : ord (toldJ e) = ord (toldJ (backE e)) := by
  have e2 : ordL ((pairsE (backE e)).map (·.2)) = ordL ((pairsE e).map (·.2)) := by
   have e3 := vals_back (e := backE e) hr hl
   rw [e3, vals_back hr hl]
   have e4 : ord (ord e.content) = ord e.content := ord_same 11 _ (good_ord 11 _ hg.1) (inOrd_ord 11 _ hg.1)
   unfold backE
   rw [e4]
  show mapOf ((pairsE e).map (·.1)) (ordL ((pairsE e).map (·.2))) = mapOf ((pairsE (backE e)).map (·.1)) (ordL ((pairsE (backE e)).map (·.2)))
  rw [e2, keys_back]
 rw [e1]
 exact ord_same 12 _ (shaped_good hb) (inOrd_told hr (inOrd_ord 11 _ hg.1))
end Go.Proofs.YtegcgbjjpgjnmaaGreatDoor
namespace Go.Proofs.YtegcgbjjpgjnmaaGreatDoor
open Go.RowKit
theorem loadAtE {w : World} {b : Nat} {t : TypeId} {u0 u1 u2 u3 u4 u5 u6 u7 u8 u9 u10 u11 u12 u13 u14 u15 : Value} (h : w.heap[b]? = some (.cells #[u0, u1, u2, u3, u4, u5, u6, u7, u8, u9, u10, u11, u12, u13, u14, u15] t (0, 0))) : (Instr.loadAt 28 (.pointer (some ⟨b, 0, none⟩))).run Tryz.prog w = .ok (.agg #[u0, u1, u2, u3, u4, u5, u6, u7, u8, u9, u10, u11, u12, u13, u14, u15]) w := by
 have k0 := six_c h 0 _ rfl; have k1 := six_c h 1 _ rfl; have k2 := six_c h 2 _ rfl; have k3 := six_c h 3 _ rfl; have k4 := six_c h 4 _ rfl; have k5 := six_c h 5 _ rfl; have k6 := six_c h 6 _ rfl; have k7 := six_c h 7 _ rfl; have k8 := six_c h 8 _ rfl; have k9 := six_c h 9 _ rfl; have k10 := six_c h 10 _ rfl; have k11 := six_c h 11 _ rfl; have k12 := six_c h 12 _ rfl; have k13 := six_c h 13 _ rfl; have k14 := six_c h 14 _ rfl; have k15 := six_c h 15 _ rfl
 simp [Instr.loadAt, go_sem, k0, k1, k2, k3, k4, k5, k6, k7, k8, k9, k10, k11, k12, k13, k14, k15]
section
variable {w : World} {ops : Array Oper} {rest : List Oper} {o : Oper} {a : Act} {Q : Exit → Act → World → Prop} {b : Nat} {t : TypeId} {u0 u1 u2 u3 u4 u5 u6 u7 u8 u9 u10 u11 u12 u13 u14 u15 : Value}
theorem wpList_load16 (hg : o.guard = none) (m : Operand) (hop : o.op = Op.load 28 m) (hm : a.eval m = .pointer (some ⟨b, 0, none⟩)) (h : w.heap[b]? = some (.cells #[u0, u1, u2, u3, u4, u5, u6, u7, u8, u9, u10, u11, u12, u13, u14, u15] t (0, 0)))
    (hK : wpList Tryz.prog ops Q rest (a.put o.dst (.agg #[u0, u1, u2, u3, u4, u5, u6, u7, u8, u9, u10, u11, u12, u13, u14, u15])) w) : wpList Tryz.prog ops Q (o :: rest) a w := by
 refine wpList_plain hg fun K' hK' => ?_
 have hl := loadAtE h
 unfold Oper.wp
 simp [execOp, hop, hm, hl, Result.andThen]
 exact hK' _ _ hK
end
theorem list_ext_D {α : Type} {z : α} {a b : List α} (hl : a.length = b.length) (h : ∀ n, n < a.length → a.getD n z = b.getD n z) : a = b := by
 apply List.ext_getElem hl
 intro n h1 h2
 have := h n h1
 rw [List.getD_eq_getElem?_getD, List.getD_eq_getElem?_getD, List.getElem?_eq_getElem h1, List.getElem?_eq_getElem h2] at this
 exact this
def Sames (d : Nat) : Prop := ∀ (w : World) (O : Nat → Prop) (x y : J) (k i : Int) (t : ByteArray) (pk pl : Option Addr) (nk ck nl cl : Nat) (k' i' : Int) (t' : ByteArray) (pk' pl' : Option Addr) (nk' ck' nl' cl' : Nat), (∀ b, O b → b < w.heap.size) → goodJ d x = true → szJ d x = true →
 isJ O w x [.int .i64 k, .int .i64 i, .string t, .slice pk nk ck, .slice pl nl cl] → isJ O w y [.int .i64 k', .int .i64 i', .string t', .slice pk' nk' ck', .slice pl' nl' cl'] →
 Calls Tryz.prog 12 #[.agg #[.int .i64 k, .int .i64 i, .string t, .slice pk nk ck, .slice pl nl cl], .agg #[.int .i64 k', .int .i64 i', .string t', .slice pk' nk' ck', .slice pl' nl' cl']] w fun r w' => (∃ b, r = .returned (.bool b) ∧ (b = true ↔ x = y)) ∧ Below w.heap.size w w'
theorem isJ_parts {O : Nat → Prop} {w : World} {kx ix : Int} {tx : ByteArray} {ks : List ByteArray} {l : List J} {k i : Int} {t : ByteArray} {pk pl : Option Addr} {nk ck nl cl : Nat} (h : isJ O w (.mk kx ix tx ks l) [.int .i64 k, .int .i64 i, .string t, .slice pk nk ck, .slice pl nl cl]) :
    k = kx ∧ i = ix ∧ t = tx ∧ nk = ks.length ∧ nl = l.length ∧ RdK O w pk ck ks ∧ l.length ≤ cl ∧ isJs O w pl 0 l := by
 unfold isJ at h
 obtain ⟨pk', ck', pl', cl', e, h1, h2, h3⟩ := h
 simp only [List.cons.injEq, Value.int.injEq, Value.string.injEq, Value.slice.injEq, true_and, and_true] at e
 obtain ⟨rfl, rfl, rfl, ⟨rfl, rfl, rfl⟩, rfl, rfl, rfl⟩ := e
 exact ⟨rfl, rfl, rfl, rfl, rfl, h1, h2, h3⟩
theorem RdK.cellAt {O : Nat → Prop} {w : World} {p : Option Addr} {c : Nat} {ks : List ByteArray} (h : RdK O w p c ks) {n : Nat} (hn : n < ks.length) : ∃ a, p = some a ∧ O a.block ∧ w.cell? (a.add n) = some (.string (keyAtK ks n)) := h.2 n hn
theorem same_zero : Sames 0 := fun _ _ x _ _ _ _ _ _ _ _ _ _ _ _ _ _ _ _ _ _ _ _ hg => by unfold goodJ at hg; cases hg
theorem same_step {d : Nat} (V : Sames d) : Sames (d + 1) := by
 intro w O x y k i t pk pl nk ck nl cl k' i' t' pk' pl' nk' ck' nl' cl' hO hg hsz hx hy
 obtain ⟨kx, ix, tx, ks, l⟩ := x
 obtain ⟨ky, iy, ty, ms, r⟩ := y
 obtain ⟨rfl, rfl, rfl, rfl, rfl, hkx, hlx, hsx⟩ := isJ_parts hx
 obtain ⟨rfl, rfl, rfl, rfl, rfl, hky, hly, hsy⟩ := isJ_parts hy
 clear hx hy
 unfold szJ at hsz
 simp only [Bool.and_eq_true, decide_eq_true_eq] at hsz
 obtain ⟨_, hks, _, hll, hlsz⟩ := hsz
 have HGL : Hid (l.all (goodJ d) = true) := (good_sub hg).1
 have HLS : Hid (l.all (szJ d) = true) := hlsz
 clear hg hlsz
 obtain ⟨nk, hnk⟩ : ∃ n, ks.length = n := ⟨_, rfl⟩
 obtain ⟨nm, hnm⟩ : ∃ n, ms.length = n := ⟨_, rfl⟩
 obtain ⟨nl, hnl⟩ : ∃ n, l.length = n := ⟨_, rfl⟩
 obtain ⟨nr, hnr⟩ : ∃ n, r.length = n := ⟨_, rfl⟩
 have HNK : Hid (ks.length = nk) := hnk
 have HNM : Hid (ms.length = nm) := hnm
 have HNL : Hid (l.length = nl) := hnl
 have HNR : Hid (r.length = nr) := hnr
 have hckx := hkx.1
 have hcky := hky.1
 rw [hnk] at hks hckx ⊢
 rw [hnm] at hcky ⊢
 rw [hnl] at hll hlx ⊢
 rw [hnr] at hly ⊢
 clear hnk hnm hnl hnr
 have hbA : Below w.heap.size w ((w.alloc (.cells #[.int .i64 k, .int .i64 i, .string t, .slice pk nk ck, .slice pl nl cl] 25)).alloc (.cells #[.int .i64 k', .int .i64 i', .string t', .slice pk' nm ck', .slice pl' nr cl'] 25)) := ((Below.refl _ _).alloc (Nat.le_refl _) _).alloc (by simp) _
 by_cases e1 : k = k'
 rotate_left
 · go_enter Tryz.func12, Tryz.ntmps12
   go_wp2
   go_ret
   exact ⟨⟨false, rfl, fun h => (by cases h), fun h => absurd (J.mk.inj h).1 e1⟩, ((Below.refl _ _).alloc (Nat.le_refl _) _).alloc (by simp) _⟩
 by_cases e2 : i = i'
 rotate_left
 · go_enter Tryz.func12, Tryz.ntmps12
   go_wp2
   go_ret
   exact ⟨⟨false, rfl, fun h => (by cases h), fun h => absurd (J.mk.inj h).2.1 e2⟩, ((Below.refl _ _).alloc (Nat.le_refl _) _).alloc (by simp) _⟩
 by_cases e3 : t = t'
 rotate_left
 · have heq : (t.toList == t'.toList) = false := by rw [beq_eq_false_iff_ne]; intro e; exact e3 (toList_inj e)
   go_enter Tryz.func12, Tryz.ntmps12
   go_wp2
   go_ret
   exact ⟨⟨false, rfl, fun h => (by cases h), fun h => absurd (J.mk.inj h).2.2.1 e3⟩, ((Below.refl _ _).alloc (Nat.le_refl _) _).alloc (by simp) _⟩
 by_cases e4 : nk = nm
 rotate_left
 · go_enter Tryz.func12, Tryz.ntmps12
   go_wp2
   go_ret
   exact ⟨⟨false, rfl, fun h => (by cases h), fun h => absurd (by rw [← HNK.out, ← HNM.out, (J.mk.inj h).2.2.2.1]) e4⟩, ((Below.refl _ _).alloc (Nat.le_refl _) _).alloc (by simp) _⟩
 by_cases e5 : nl = nr
 rotate_left
 · go_enter Tryz.func12, Tryz.ntmps12
   go_wp2
   go_ret
   exact ⟨⟨false, rfl, fun h => (by cases h), fun h => absurd (by rw [← HNL.out, ← HNR.out, (J.mk.inj h).2.2.2.2]) e5⟩, ((Below.refl _ _).alloc (Nat.le_refl _) _).alloc (by simp) _⟩
 subst e1 e2 e3 e4 e5
 obtain ⟨wB, hwB⟩ : ∃ wB, wB = ((w.alloc (.cells #[.int .i64 k, .int .i64 i, .string t, .slice pk nk ck, .slice pl nl cl] 25)).alloc (.cells #[.int .i64 k, .int .i64 i, .string t, .slice pk' nk ck', .slice pl' nl cl'] 25)) := ⟨_, rfl⟩
 have hA : wB.heap[w.heap.size]? = some (.cells #[.int .i64 k, .int .i64 i, .string t, .slice pk nk ck, .slice pl nl cl] 25 (0, 0)) := by
  rw [hwB, Below.heap_alloc _ _ _ (by simp)]
  exact heap_alloc_new _ _
 have hB : wB.heap[w.heap.size + 1]? = some (.cells #[.int .i64 k, .int .i64 i, .string t, .slice pk' nk ck', .slice pl' nl cl'] 25 (0, 0)) := by
  rw [hwB]
  have := heap_alloc_new (w.alloc (.cells #[.int .i64 k, .int .i64 i, .string t, .slice pk nk ck, .slice pl nl cl] 25)) (.cells #[.int .i64 k, .int .i64 i, .string t, .slice pk' nk ck', .slice pl' nl cl'] 25)
  simpa using this
 rw [← hwB] at hbA
 have hsB : w.heap.size + 2 ≤ wB.heap.size := by rw [hwB]; simp
 have HCA : Hid (∀ W : World, Below wB.heap.size wB W → ∀ n v, [Value.int .i64 k, .int .i64 i, .string t, .slice pk nk ck, .slice pl nl cl][n]? = some v → W.cell? ⟨w.heap.size, n, none⟩ = some v) := fun W hW n v hv =>
  (World.cell?_of_block (a := ⟨w.heap.size, n, none⟩) (hW.block w.heap.size (by omega))).trans (cell_row (cur := [.int .i64 k, .int .i64 i, .string t, .slice pk nk ck, .slice pl nl cl]) hA n v hv)
 have HCB : Hid (∀ W : World, Below wB.heap.size wB W → ∀ n v, [Value.int .i64 k, .int .i64 i, .string t, .slice pk' nk ck', .slice pl' nl cl'][n]? = some v → W.cell? ⟨w.heap.size + 1, n, none⟩ = some v) := fun W hW n v hv =>
  (World.cell?_of_block (a := ⟨w.heap.size + 1, n, none⟩) (hW.block (w.heap.size + 1) (by omega))).trans (cell_row (cur := [.int .i64 k, .int .i64 i, .string t, .slice pk' nk ck', .slice pl' nl cl']) hB n v hv)
 clear hA hB
 go_enter Tryz.func12, Tryz.ntmps12
 go_wp2
 rw [← hwB]
 clear hwB
 go_loopw [5] (fun v wr => ∃ n : Nat, v = .int .i64 n ∧ n ≤ nk ∧ Hid (∀ m, m < n → keyAtK ks m = keyAtK ms m) ∧ wr.heap = wB.heap ∧ Below wB.heap.size wB wr) (fun v _ => nk - (intOf v).toNat)
 case atStart => exact ⟨0, rfl, Nat.zero_le _, fun m hm => absurd hm (by omega), rfl, Below.refl _ _⟩
 case round =>
  obtain ⟨n, rfl, hn, HE, hheap, hbr⟩ := hrel
  have a3 := HCA.out wr hbr 3 _ rfl
  have b3 := HCB.out wr hbr 3 _ rfl
  by_cases hnk : n < nk
  · have hni : (n : Int) < (nk : Int) := by omega
    obtain ⟨ka, hpk, hOa, hcka⟩ := hkx.cellAt (n := n) (by rw [HNK.out]; exact hnk)
    obtain ⟨kb, hpm, hOb, hckb⟩ := hky.cellAt (n := n) (by rw [HNM.out]; exact hnk)
    subst hpk hpm
    have hKA : ∀ W : World, Below wB.heap.size wB W → W.cell? (ka.add n) = some (.string (keyAtK ks n)) := fun W hW =>
     (World.cell?_of_block (by rw [add_block]; exact (hW.block _ (by have := hO _ hOa; omega)).trans (hbA.block _ (hO _ hOa)))).trans hcka
    have hKB : ∀ W : World, Below wB.heap.size wB W → W.cell? (kb.add n) = some (.string (keyAtK ms n)) := fun W hW =>
     (World.cell?_of_block (by rw [add_block]; exact (hW.block _ (by have := hO _ hOb; omega)).trans (hbA.block _ (hO _ hOb)))).trans hckb
    obtain ⟨u, hu⟩ : ∃ u, keyAtK ks n = u := ⟨_, rfl⟩
    obtain ⟨v, hv⟩ : ∃ v, keyAtK ms n = v := ⟨_, rfl⟩
    have HU : Hid (keyAtK ks n = u) := hu
    have HV : Hid (keyAtK ms n = v) := hv
    rw [hu] at hKA
    rw [hv] at hKB
    have HKA : Hid (∀ W : World, Below wB.heap.size wB W → W.cell? (ka.add n) = some (.string u)) := hKA
    have HKB : Hid (∀ W : World, Below wB.heap.size wB W → W.cell? (kb.add n) = some (.string v)) := hKB
    clear hu hv hKA hKB hcka hckb
    have hC0 : Below wB.heap.size wB wr.drew := ⟨hbr.os, hbr.tape, hbr.output, hbr.size, hbr.block⟩
    by_cases huv : u = v
    · have heq : (u.toList == v.toList) = true := by rw [huv]; simp
      go_wp2
      refine wp_region_in (by kernel_rfl) (fun W => Below wB.heap.size wB W) ?_
      change wpIn _ _ _ _ _ _ _ _ (World.drew _)
      refine wpIn_tk (i := 0) (d := some 51) rfl ?_
      refine wpIn_tp (i := 1) (d := some 52) rfl (by (intro wq hq; have q0 := HCA.out wq hq 3 _ rfl; have q1 := HCB.out wq hq 3 _ rfl; have q2 := HKA.out wq hq; have q3 := HKB.out wq hq; go_simp; first | done | with_reducible rfl)) ?_
      refine wpIn_tk (i := 2) (d := some 53) rfl ?_
      refine wpIn_tk (i := 3) (d := some 54) rfl ?_
      refine wpIn_tp (i := 4) (d := some 55) rfl (by (intro wq hq; have q0 := HCA.out wq hq 3 _ rfl; have q1 := HCB.out wq hq 3 _ rfl; have q2 := HKA.out wq hq; have q3 := HKB.out wq hq; go_simp; first | done | with_reducible rfl)) ?_
      refine wpIn_tk (i := 5) (d := some 56) rfl ?_
      refine wpIn_tp (i := 6) (d := some 57) rfl (by (intro wq hq; have q0 := HCA.out wq hq 3 _ rfl; have q1 := HCB.out wq hq 3 _ rfl; have q2 := HKA.out wq hq; have q3 := HKB.out wq hq; go_simp; first | done | with_reducible rfl)) ?_
      refine wpIn_tk (i := 7) (d := some 58) rfl ?_
      refine wpIn_tk (i := 8) (d := some 59) rfl ?_
      refine wpIn_tp (i := 9) (d := some 60) rfl (by (intro wq hq; have q0 := HCA.out wq hq 3 _ rfl; have q1 := HCB.out wq hq 3 _ rfl; have q2 := HKA.out wq hq; have q3 := HKB.out wq hq; go_simp; first | done | with_reducible rfl)) ?_
      refine wpIn_tk (i := 10) (d := some 61) rfl ?_
      refine wpIn_done hC0 (by kernel_rfl) ?_ _
      go_wp2
      go_roundw
      case rel => exact ⟨n + 1, by go_num, hnk, fun m hm => (Nat.lt_succ_iff_lt_or_eq.1 hm).elim (HE.out m) fun e => by rw [e, HU.out, HV.out, huv], hheap, hC0⟩
      case measure => simp [intOf]; omega
    · have heq : (u.toList == v.toList) = false := by rw [beq_eq_false_iff_ne]; intro e; exact huv (toList_inj e)
      go_wp2
      refine wp_region_in (by kernel_rfl) (fun W => Below wB.heap.size wB W) ?_
      change wpIn _ _ _ _ _ _ _ _ (World.drew _)
      refine wpIn_tk (i := 0) (d := some 51) rfl ?_
      refine wpIn_tp (i := 1) (d := some 52) rfl (by (intro wq hq; have q0 := HCA.out wq hq 3 _ rfl; have q1 := HCB.out wq hq 3 _ rfl; have q2 := HKA.out wq hq; have q3 := HKB.out wq hq; go_simp; first | done | with_reducible rfl)) ?_
      refine wpIn_tk (i := 2) (d := some 53) rfl ?_
      refine wpIn_tk (i := 3) (d := some 54) rfl ?_
      refine wpIn_tp (i := 4) (d := some 55) rfl (by (intro wq hq; have q0 := HCA.out wq hq 3 _ rfl; have q1 := HCB.out wq hq 3 _ rfl; have q2 := HKA.out wq hq; have q3 := HKB.out wq hq; go_simp; first | done | with_reducible rfl)) ?_
      refine wpIn_tk (i := 5) (d := some 56) rfl ?_
      refine wpIn_tp (i := 6) (d := some 57) rfl (by (intro wq hq; have q0 := HCA.out wq hq 3 _ rfl; have q1 := HCB.out wq hq 3 _ rfl; have q2 := HKA.out wq hq; have q3 := HKB.out wq hq; go_simp; first | done | with_reducible rfl)) ?_
      refine wpIn_tk (i := 7) (d := some 58) rfl ?_
      refine wpIn_tk (i := 8) (d := some 59) rfl ?_
      refine wpIn_tp (i := 9) (d := some 60) rfl (by (intro wq hq; have q0 := HCA.out wq hq 3 _ rfl; have q1 := HCB.out wq hq 3 _ rfl; have q2 := HKA.out wq hq; have q3 := HKB.out wq hq; go_simp; first | done | with_reducible rfl)) ?_
      refine wpIn_tk (i := 10) (d := some 61) rfl ?_
      refine wpIn_done hC0 (by kernel_rfl) ?_ _
      go_wp2
      go_ret
      exact ⟨⟨false, rfl, fun h => (by cases h), fun h => absurd (by rw [← HU.out, ← HV.out, (J.mk.inj h).2.2.2.1]) huv⟩, below_cat hbA (by omega) hC0⟩
  · obtain rfl : n = nk := by omega
    have HKS : Hid (ks = ms) := list_ext_D (z := nix) (by rw [HNK.out, HNM.out]) fun m hm => HE.out m (by rw [← HNK.out]; exact hm)
    clear a3 b3
    have a3 := HCA.out wr hbr 3 _ rfl
    go_wp2
    go_loopw [6] (fun v w2 => ∃ m : Nat, v = .int .i64 m ∧ m ≤ nl ∧ Hid (∀ j, j < m → l.getD j J.zero = r.getD j J.zero) ∧ Below wB.heap.size wB w2) (fun v _ => nl - (intOf v).toNat)
    case atStart => exact ⟨0, rfl, Nat.zero_le _, fun m hm => absurd hm (by omega), hbr⟩
    case round =>
     obtain ⟨m, rfl, hm, HJ, hb2⟩ := hrel
     have a4 := HCA.out wr hb2 4 _ rfl
     by_cases hml : m < nl
     · have hmi : (m : Int) < (nl : Int) := by omega
       have hml1 : m < l.length := by rw [HNL.out]; exact hml
       have hml2 : m < r.length := by rw [HNR.out]; exact hml
       obtain ⟨lb, lo, cs, hpl, hOl, hcells, hyj⟩ := isJs.at l 0 m hsx hml1
       obtain ⟨rb, ro, ds, hpr, hOr, hcells', hyj'⟩ := isJs.at r 0 m hsy hml2
       subst hpl hpr
       obtain ⟨x0, x1, x2, p3, n3, c3, p4, n4, c4, rfl⟩ := isJ_shape hyj
       obtain ⟨y0, y1, y2, p3', n3', c3', p4', n4', c4', rfl⟩ := isJ_shape hyj'
       have HXC : Hid (∀ W : World, Below wB.heap.size wB W → ∀ n v, [Value.int .i64 x0, .int .i64 x1, .string x2, .slice p3 n3 c3, .slice p4 n4 c4][n]? = some v → W.cell? ⟨lb, lo + m * 5 + n, none⟩ = some v) := fun W hW n v h => by
        have h1 := hcells n v h
        rw [Nat.zero_add] at h1
        exact (World.cell?_of_block (a := ⟨lb, lo + m * 5 + n, none⟩) ((hW.block lb (by have := hO _ hOl; omega)).trans (hbA.block lb (hO _ hOl)))).trans h1
       have HYC : Hid (∀ W : World, Below wB.heap.size wB W → ∀ n v, [Value.int .i64 y0, .int .i64 y1, .string y2, .slice p3' n3' c3', .slice p4' n4' c4'][n]? = some v → W.cell? ⟨rb, ro + m * 5 + n, none⟩ = some v) := fun W hW n v h => by
        have h1 := hcells' n v h
        rw [Nat.zero_add] at h1
        exact (World.cell?_of_block (a := ⟨rb, ro + m * 5 + n, none⟩) ((hW.block rb (by have := hO _ hOr; omega)).trans (hbA.block rb (hO _ hOr)))).trans h1
       have hC0 : Below wB.heap.size wB wr.drew := ⟨hb2.os, hb2.tape, hb2.output, hb2.size, hb2.block⟩
       have hV := V wr.drew O (l.getD m J.zero) (r.getD m J.zero) x0 x1 x2 p3 p4 n3 c3 n4 c4 y0 y1 y2 p3' p4' n3' c3' n4' c4' (fun b hb => Nat.lt_of_lt_of_le (hO b hb) (by have := hbA.size; have := hC0.size; omega)) (all_at HGL.out hml1) (all_at HLS.out hml1)
        (hyj.carry fun b hb => ⟨hb, (hC0.block _ (by have := hO _ hb; omega)).trans (hbA.block _ (hO _ hb))⟩) (hyj'.carry fun b hb => ⟨hb, (hC0.block _ (by have := hO _ hb; omega)).trans (hbA.block _ (hO _ hb))⟩)
       clear hcells hcells' hyj hyj'
       go_wp2
       refine wp_region_in (by kernel_rfl) (fun W => Below wB.heap.size wB W) ?_
       change wpIn _ _ _ _ _ _ _ _ (World.drew _)
       refine wpIn_tk (i := 0) (d := some 69) rfl ?_
       refine wpIn_tp (i := 1) (d := some 70) rfl (by (intro wq hq; have q0 := HCA.out wq hq 4 _ rfl; go_simp; first | done | with_reducible rfl)) ?_
       refine wpIn_tk (i := 2) (d := some 71) rfl ?_
       refine wpIn_tk (i := 3) (d := some 72) rfl ?_
       refine wpIn_tp (i := 4) (d := some 73) rfl (by (intro wq hq; have q0 := HXC.out wq hq 0 _ rfl; rw [Nat.add_zero] at q0; have q1 := HXC.out wq hq 1 _ rfl; have q2 := HXC.out wq hq 2 _ rfl; have q3 := HXC.out wq hq 3 _ rfl; have q4 := HXC.out wq hq 4 _ rfl; go_simp; first | done | with_reducible rfl)) ?_
       refine wpIn_tk (i := 5) (d := some 74) rfl ?_
       refine wpIn_tp (i := 6) (d := some 75) rfl (by (intro wq hq; have q0 := HCB.out wq hq 4 _ rfl; go_simp; first | done | with_reducible rfl)) ?_
       refine wpIn_tk (i := 7) (d := some 76) rfl ?_
       refine wpIn_tk (i := 8) (d := some 77) rfl ?_
       refine wpIn_tp (i := 9) (d := some 78) rfl (by (intro wq hq; have q0 := HYC.out wq hq 0 _ rfl; rw [Nat.add_zero] at q0; have q1 := HYC.out wq hq 1 _ rfl; have q2 := HYC.out wq hq 2 _ rfl; have q3 := HYC.out wq hq 3 _ rfl; have q4 := HYC.out wq hq 4 _ rfl; go_simp; first | done | with_reducible rfl)) ?_
       refine wpIn_do (i := 10) hC0 (by kernel_rfl) rfl (by rfl) ?_
       intro K hK
       go_simp
       go_wp2_with (go_at_call 12; refine hV.mono ?_; rintro x w3 ⟨⟨b, rfl, hbiff⟩, hb3⟩)
       have hC1 : Below wB.heap.size wB w3 := below_cat hC0 hC0.size hb3
       have HBI : Hid (b = true ↔ l.getD m J.zero = r.getD m J.zero) := hbiff
       clear hC0 hbiff hV
       refine wpIn_tk (i := 11) (d := some 80) rfl ?_
       refine wpIn_done hC1 (by kernel_rfl) ?_ _
       cases b with
       | true =>
        go_wp2
        go_roundw
        case rel => exact ⟨m + 1, by go_num, hml, fun j hj => (Nat.lt_succ_iff_lt_or_eq.1 hj).elim (HJ.out j) fun e => by rw [e]; exact HBI.out.1 rfl, hC1⟩
        case measure => simp [intOf]; omega
       | false =>
        go_wp2
        go_ret
        refine ⟨⟨false, rfl, fun h => (by cases h), fun h => ?_⟩, below_cat hbA (by omega) hC1⟩
        have e := (J.mk.inj h).2.2.2.2
        exact HBI.out.2 (by rw [e])
     · obtain rfl : m = nl := by omega
       go_wp2
       go_ret
       refine ⟨⟨true, rfl, fun _ => ?_, fun _ => rfl⟩, below_cat hbA (by omega) hb2⟩
       rw [HKS.out, list_ext_D (z := J.zero) (by rw [HNL.out, HNR.out]) fun j hj => HJ.out j (by rw [← HNL.out]; exact hj)]
theorem sames : ∀ d, Sames d
 | 0 => same_zero
 | d + 1 => same_step (sames d)
theorem below_dr {B : Nat} {a b : World} (h : Below B a b) (n : Nat) : Below B a (b.drewN n) := ⟨h.os, h.tape, h.output, h.size, h.block⟩
theorem str_eq (a : ByteArray) : (a.toList == a.toList) = true := by simp
theorem strings_eq {O : Nat → Prop} {l : List ByteArray} {p q : Option Addr} {c d : Nat} {w : World} (h1 : RdK O w p c l) (h2 : RdK O w q d l) (hO : ∀ k, O k → k < w.heap.size) (hl : l.length ≤ 100000) :
    Calls Tryz.prog 38 #[.slice p l.length c, .slice q l.length d] w fun x w' => x = .returned (.bool true) ∧ Below w.heap.size w w' := by
 obtain ⟨n, hn⟩ : ∃ n, l.length = n := ⟨_, rfl⟩
 have HN : Hid (l.length = n) := hn
 have hc1 := h1.1
 have hc2 := h2.1
 rw [hn] at hl hc1 hc2 ⊢
 clear hn
 go_enter Tryz.func38, Tryz.ntmps38
 go_wp2
 go_loopw [5] (fun v wr => ∃ m : Nat, v = .int .i64 m ∧ m ≤ n ∧ Below w.heap.size w wr) (fun v _ => n - (intOf v).toNat)
 case atStart => exact ⟨0, rfl, Nat.zero_le _, Below.refl _ _⟩
 case round =>
  obtain ⟨m, rfl, hm, hb⟩ := hrel
  by_cases hml : m < n
  · have hmi : (m : Int) < (n : Int) := by omega
    have hm1 : m < l.length := by rw [HN.out]; exact hml
    obtain ⟨a, hp, hOa, hca⟩ := h1.2 m hm1
    obtain ⟨b, hq, hOb, hcb⟩ := h2.2 m hm1
    subst hp hq
    have hA : wr.cell? (a.add m) = some (.string (l.getD m nix)) := (World.cell?_of_block (by rw [add_block]; exact hb.block _ (hO _ hOa))).trans hca
    have hB : wr.cell? (b.add m) = some (.string (l.getD m nix)) := (World.cell?_of_block (by rw [add_block]; exact hb.block _ (hO _ hOb))).trans hcb
    obtain ⟨u, hu⟩ : ∃ u, l.getD m nix = u := ⟨_, rfl⟩
    rw [hu] at hA hB
    clear hu hca hcb hm1
    go_wp2
    go_quiet (fail)
    go_wp2
    go_roundw
    case rel => exact ⟨m + 1, by go_num, hml, below_dr hb _⟩
    case measure => simp [intOf]; omega
  · obtain rfl : m = n := by omega
    go_wp2
    go_ret
    exact ⟨rfl, hb⟩
theorem same_eq0 {O : Nat → Prop} (e : Ev) (p p2 : Pt) (w : World) (h1 : IsE O w e p) (h2 : IsE O w e p2) (hO : ∀ k, O k → k < w.heap.size) (hz : SzE e) (hg : goodJ 12 e.content = true) (hs : e.sigs = []) :
    Calls Tryz.prog 19 #[valE e p, valE e p2] w fun x w' => x = .returned (.bool true) ∧ Below w.heap.size w w' := by
 obtain ⟨room, typ, sender, st, key, ⟨k, i, t, ks, l⟩, prev, auth, depth, ts, hash, sigs⟩ := e
 obtain ⟨pk, ck, pl, cl, pp, cp, pa, ca, ps, cs⟩ := p
 obtain ⟨pk2, ck2, pl2, cl2, pp2, cp2, pa2, ca2, ps2, cs2⟩ := p2
 simp only at hs
 subst hs
 obtain ⟨WA, hWA⟩ : ∃ WA, WA = (w.alloc (.cells #[.string room, .string typ, .string sender, .bool st, .string key, .int .i64 k, .int .i64 i, .string t, .slice pk ks.length ck, .slice pl l.length cl, .slice pp prev.length cp, .slice pa auth.length ca, .int .i64 depth, .int .i64 ts, .string hash, .slice ps 0 cs] 28)).alloc (.cells #[.string room, .string typ, .string sender, .bool st, .string key, .int .i64 k, .int .i64 i, .string t, .slice pk2 ks.length ck2, .slice pl2 l.length cl2, .slice pp2 prev.length cp2, .slice pa2 auth.length ca2, .int .i64 depth, .int .i64 ts, .string hash, .slice ps2 0 cs2] 28) := ⟨_, rfl⟩
 have hbA : Below w.heap.size w WA := by rw [hWA]; exact ((Below.refl _ _).alloc (Nat.le_refl _) _).alloc (by simp) _
 have hsA : w.heap.size + 2 ≤ WA.heap.size := by rw [hWA]; simp
 have hxA : WA.heap[w.heap.size]? = some (.cells #[.string room, .string typ, .string sender, .bool st, .string key, .int .i64 k, .int .i64 i, .string t, .slice pk ks.length ck, .slice pl l.length cl, .slice pp prev.length cp, .slice pa auth.length ca, .int .i64 depth, .int .i64 ts, .string hash, .slice ps 0 cs] 28 (0, 0)) := by rw [hWA]; exact one_of _ _
 have hxB : WA.heap[w.heap.size + 1]? = some (.cells #[.string room, .string typ, .string sender, .bool st, .string key, .int .i64 k, .int .i64 i, .string t, .slice pk2 ks.length ck2, .slice pl2 l.length cl2, .slice pp2 prev.length cp2, .slice pa2 auth.length ca2, .int .i64 depth, .int .i64 ts, .string hash, .slice ps2 0 cs2] 28 (0, 0)) := by rw [hWA]; exact two_at _ _
 have HC : Hid (∀ W, Below WA.heap.size WA W → (∀ j v, [.string room, .string typ, .string sender, .bool st, .string key, .int .i64 k, .int .i64 i, .string t, .slice pk ks.length ck, .slice pl l.length cl, .slice pp prev.length cp, .slice pa auth.length ca, .int .i64 depth, .int .i64 ts, .string hash, .slice ps 0 cs][j]? = some v → W.cell? ⟨w.heap.size, j, none⟩ = some v) ∧ (∀ j v, [.string room, .string typ, .string sender, .bool st, .string key, .int .i64 k, .int .i64 i, .string t, .slice pk2 ks.length ck2, .slice pl2 l.length cl2, .slice pp2 prev.length cp2, .slice pa2 auth.length ca2, .int .i64 depth, .int .i64 ts, .string hash, .slice ps2 0 cs2][j]? = some v → W.cell? ⟨w.heap.size + 1, j, none⟩ = some v)) := fun W hW => ⟨fun j v hj => cell_row ((hW.block _ (by omega)).trans hxA) j v hj, fun j v hj => cell_row ((hW.block _ (by omega)).trans hxB) j v hj⟩
 have hOA : ∀ W, Below WA.heap.size WA W → ∀ k, O k → k < W.heap.size := fun W hW k hk => Nat.lt_of_lt_of_le (hO k hk) (below_in hbA hW).size
 have T1 := strings_eq (h1.below hO hbA).prev (h2.below hO hbA).prev (hOA WA (Below.refl _ _)) hz.prev
 have S2 : Hid (∀ W, Below WA.heap.size WA W → Calls Tryz.prog 38 #[.slice pa auth.length ca, .slice pa2 auth.length ca2] W fun x w' => x = .returned (.bool true) ∧ Below W.heap.size W w') := fun W hW => strings_eq (h1.below hO (below_in hbA hW)).auth (h2.below hO (below_in hbA hW)).auth (hOA W hW) hz.auth
 have S3 : Hid (∀ W, Below WA.heap.size WA W → Calls Tryz.prog 12 #[.agg #[.int .i64 k, .int .i64 i, .string t, .slice pk ks.length ck, .slice pl l.length cl], .agg #[.int .i64 k, .int .i64 i, .string t, .slice pk2 ks.length ck2, .slice pl2 l.length cl2]] W fun x w' => x = .returned (.bool true) ∧ Below W.heap.size W w') := fun W hW => (sames 12 W O ⟨k, i, t, ks, l⟩ ⟨k, i, t, ks, l⟩ k i t pk pl ks.length ck l.length cl k i t pk2 pl2 ks.length ck2 l.length cl2 (hOA W hW) hg hz.cont (h1.below hO (below_in hbA hW)).cont (h2.below hO (below_in hbA hW)).cont).mono (by rintro x w' ⟨⟨b, rfl, hb⟩, hb2⟩; exact ⟨by rw [hb.2 rfl], hb2⟩)
 have HBA : Hid (Below w.heap.size w WA) := hbA
 simp only [valE, cellsE, J.kind, J.int, J.text, J.keys, J.list, List.length_nil] at T1 ⊢
 rw [hWA] at T1
 have HWA : Hid (WA = (w.alloc (.cells #[.string room, .string typ, .string sender, .bool st, .string key, .int .i64 k, .int .i64 i, .string t, .slice pk ks.length ck, .slice pl l.length cl, .slice pp prev.length cp, .slice pa auth.length ca, .int .i64 depth, .int .i64 ts, .string hash, .slice ps 0 cs] 28)).alloc (.cells #[.string room, .string typ, .string sender, .bool st, .string key, .int .i64 k, .int .i64 i, .string t, .slice pk2 ks.length ck2, .slice pl2 l.length cl2, .slice pp2 prev.length cp2, .slice pa2 auth.length ca2, .int .i64 depth, .int .i64 ts, .string hash, .slice ps2 0 cs2] 28)) := hWA
 clear hWA hxA hxB hbA hsA hOA h1 h2 hz hg hO
 go_enter Tryz.func19, Tryz.ntmps19
 go_wp2_with (first
  | (go_at_call 12; refine T3.mono ?_; rintro x w3 ⟨rfl, hb3⟩
     have g3 := below_in g2 hb3)
  | (go_at_call 38; have _g := T2; refine T2.mono ?_; rintro x w2 ⟨rfl, hb2⟩
     have g2 := below_in g1 hb2
     have T3 := S3.out w2 g2
     clear T2
     have u2 := HC.out w2 g2
     have a2_15 := u2.1 15 _ rfl; have b2_15 := u2.2 15 _ rfl; have a2_5 := u2.1 5 _ rfl; have b2_5 := u2.2 5 _ rfl; have a2_6 := u2.1 6 _ rfl; have b2_6 := u2.2 6 _ rfl; have a2_7 := u2.1 7 _ rfl; have b2_7 := u2.2 7 _ rfl; have a2_8 := u2.1 8 _ rfl; have b2_8 := u2.2 8 _ rfl; have a2_9 := u2.1 9 _ rfl; have b2_9 := u2.2 9 _ rfl
     clear u2)
  | (go_at_call 38; refine T1.mono ?_; rintro x w1 ⟨rfl, hb1⟩
     rw [← HWA.out] at hb1
     have g1 := hb1
     have T2 := S2.out w1 g1
     have u1 := HC.out w1 g1
     have a1_11 := u1.1 11 _ rfl; have b1_11 := u1.2 11 _ rfl
     clear u1))
 go_loopw [5] (fun v wr => v = .int .i64 0 ∧ Below WA.heap.size WA wr) (fun _ _ => 0)
 case atStart => exact ⟨rfl, g3⟩
 case round =>
  obtain ⟨rfl, gr⟩ := hrel
  have ur := (HC.out wr gr).1 15 _ rfl
  go_wp2
  go_ret
  exact ⟨rfl, below_in HBA.out gr⟩
end Go.Proofs.YtegcgbjjpgjnmaaGreatDoor
namespace Go.Proofs.YtegcgbjjpgjnmaaGreatDoor
open Go.RowKit Go.Maps
def sRoom : ByteArray := ⟨#[33, 114, 58, 115, 49]⟩
def sType : ByteArray := ⟨#[109, 46, 114, 111, 111, 109, 46, 109, 101, 115, 115, 97, 103, 101]⟩
def sSender : ByteArray := ⟨#[64, 97, 110, 110, 58, 115, 49]⟩
def sTok : ByteArray := ⟨#[65, 65, 65, 65, 65, 65, 65, 65, 65, 65, 69]⟩
def sampleE : Ev := ⟨sRoom, sType, sSender, false, nix, .mk 5 0 nix [] [], [], [], 0, 0, nix, []⟩
def sampleF : Ev := ⟨sRoom, sType, sSender, false, ⟨#[107]⟩, .mk 5 0 nix [] [], [], [], 0, 0, nix, []⟩
def sampleG : Ev := ⟨sRoom, sType, sSender, false, nix, .mk 5 0 nix [] [], [], [], 0, 0, nix, [(⟨#[98]⟩, sTok), (⟨#[97]⟩, sTok)]⟩
def sampleH : Ev := ⟨sRoom, sType, sSender, false, nix, .mk 0 0 nix [] [], [], [], 0, 0, nix, []⟩
theorem shape_E : shapeE sampleE = 0 := by kernel_rfl
theorem shape_F : shapeE sampleF = 50 := by kernel_rfl
theorem shape_G : shapeE sampleG = 50 := by kernel_rfl
theorem shape_H : shapeE sampleH = 50 := by kernel_rfl
theorem shaped_E : shapedE sampleE = true := by kernel_rfl
theorem len_E : (encB sampleE).length ≤ 16384 := of_decide_eq_true (by kernel_rfl)
theorem from_E : fromE (ord (toldJ sampleE)) = (sampleE, 0) := by kernel_rfl
theorem keys_E : (ordT (ord (toldJ sampleE))).keys.length ≤ 80000 := of_decide_eq_true (by kernel_rfl)
theorem sz_sample (key : ByteArray) (hk : key.size ≤ 1000000000) (sg : List (ByteArray × ByteArray)) (h1 : sg.length ≤ 100000) (h2 : ∀ x ∈ sg, x.1.size ≤ 1000000000 ∧ x.2.size ≤ 1000000000) (c : J) (hc : szJ 12 c = true) : SzE ⟨sRoom, sType, sSender, false, key, c, [], [], 0, 0, nix, sg⟩ :=
 ⟨(by decide : sRoom.size ≤ 1000000000), (by decide : sType.size ≤ 1000000000), (by decide : sSender.size ≤ 1000000000), hk, (by decide : nix.size ≤ 1000000000), hc, (by decide : ([] : List ByteArray).length ≤ 100000), fun x hx => (by cases hx), (by decide : ([] : List ByteArray).length ≤ 100000), fun x hx => (by cases hx), h1, h2⟩
end Go.Proofs.YtegcgbjjpgjnmaaGreatDoor
