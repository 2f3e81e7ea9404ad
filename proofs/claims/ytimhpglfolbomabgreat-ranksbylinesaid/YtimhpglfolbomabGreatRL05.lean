/-
  A region that draws its order: what only reads, in every world of a class that the region does not leave, may be taken first.
  The letters of bytes and the bytes of letters, as plain functions on lists of integers: what base.Encode and base.Decode tell.
  The small functions of base, by their contracts.
  Which letters a name may have, asked by a closure, and whether a text is of such letters: by contracts.
  Servers' names, local names and types: the program's own, and the document's, by contracts.
  The parts of a name with a sign ahead, as a plain function, and where its colon stands.
  strings.CutPrefix and strings.Cut at one sign, by contracts.
  Names taken apart: the program's own apart, User, Room and Home, by contracts.
  Servers' names, local names and types, as the document answers: by contracts.
  Names taken apart as the document answers, by contracts; and where a name is at home.
  spread and gather of base, by their contracts.
  spare and fault of base, by their contracts.
  A slice of bytes as it is read, and what a cut of it is.
  A copy out of a text into a row that the call itself made.
  base.Decode, by its contract: the bytes of letters, or the first error and its place.
  Letters and bytes are one thing: enc and dec are each other's inverse, and enc goes along with rows of threes.
  The statements of layer 2 that need no answer of the document's, walked: each returns true, and turns nothing that was there.
  The document's answer, bit by bit, as plain functions on lists, and that it tells the same letters and bytes.
  The document's answer of layer 2, walked: bits, letter, Encode.
  The document's answer of layer 2, walked: number, Decode.
  Events' names: the program's own answer and the document's, by contracts.
  Events: what they have, how they lie in memory, and what is told of them.
  Pasts, what their places lean on, and in which order they are heard: as plain functions.
  Pasts as they lie in memory.
  In how many rows a number stands, and the map that tells it.
-/
import Derived.Test.YtimhpglfolbomabGreatRL04
import Derived.Orders
import Derived.Tactics2
import Derived.Laws.BitsLemmas
import Derived.Lib.Walk
import Derived.Laws.CopyOwn
import Derived.Lib.ValidU
import Derived.Deep.MidRow
import Derived.Laws.Tables
set_option maxRecDepth 100000
set_option maxHeartbeats 16000000
namespace Go.Proofs.YtimhpglfolbomabGreat
open Go
section
variable {P : Program} {ops : Array Oper} {Q : Exit → Act → World → Prop} {md : Region.Mode} {C : World → Prop}
theorem upon_late {x y : Oper} {v : Value} {a : Act} {K : Act → World → Prop} {r : Result Next} (hxy : ∀ d, x.dst = some d → y.dst ≠ some d)
    (hQ : ∀ c a w, Q (.panic c) (a.put x.dst v) w → Q (.panic c) a w) (R : Act → Prop) (hR : ∀ u, R (a.put y.dst u)) (hD : ∀ d u, R ({ a with defers := d :: a.defers }.put y.dst u))
    (h : y.upon P (a.put x.dst v) K Q r) : y.upon P a (fun a' w' => R a' ∧ K (a'.put x.dst v) w') Q r := by
 match r with
 | .ok (.value u) w' => exact ⟨hR u, (Act.put_comm a v u hxy) ▸ h⟩
 | .ok .skip w' => exact ⟨hR _, (Act.put_comm a v undef hxy) ▸ h⟩
 | .ok (.defer d) w' =>
  refine ⟨hD d _, ?_⟩
  rw [← Act.put_comm _ v undef hxy, ← Act.put_defers]
  exact h
 | .ok (.enter f args) w' =>
  refine Calls.mono h fun e w'' he => ?_
  match e with
  | .returned u => exact ⟨hR u, (Act.put_comm a v u hxy) ▸ he⟩
  | .panicked c => exact hQ _ _ _ he
  | .outgrown => exact he
 | .ok (.row row args) w' => exact Rows.mono h fun u w'' he => ⟨hR u, (Act.put_comm a v u hxy) ▸ he⟩
 | .halt (.panic u) w' => exact hQ _ _ _ h
 | .halt .blocked _ => exact h
 | .halt .waiting _ => exact h
 | .halt (.stuck _) _ => exact h
 | .halt (.unsupported _) _ => exact h
theorem wpOp_late {j : Nat} {x y : Oper} {v : Value} (hj : ops[j]? = some y) (hap : x.apart ops y = true) (hx : ∀ cs b, x.op ≠ .select cs b) (hy : ∀ cs b, y.op ≠ .select cs b)
    (hQ : ∀ c a w, Q (.panic c) (a.put x.dst v) w → Q (.panic c) a w) {K : Act → World → Prop} {a : Act} {w : World} (h : wpOp P ops Q j K (a.put x.dst v) w) :
    wpOp P ops Q j (fun a' w' => (execOp a'.eval x = execOp a.eval x ∧ Region.wanted x (yielded ops a'.tmps) = Region.wanted x (yielded ops a.tmps)) ∧ K (a'.put x.dst v) w') a w := by
 obtain ⟨h1, h2, h3⟩ := Oper.apart_spec hap
 have hR : ∀ u, execOp (a.put y.dst u).eval x = execOp a.eval x ∧ Region.wanted x (yielded ops (a.put y.dst u).tmps) = Region.wanted x (yielded ops a.tmps) :=
  fun u => ⟨execOp_put x hx a y.dst u h3, wanted_put x a y.dst u h3⟩
 have hD : ∀ (d : Deferred) u, execOp ({ a with defers := d :: a.defers }.put y.dst u : Act).eval x = execOp a.eval x ∧ Region.wanted x (yielded ops ({ a with defers := d :: a.defers }.put y.dst u : Act).tmps) = Region.wanted x (yielded ops a.tmps) :=
  fun d u => ⟨execOp_put x hx { a with defers := d :: a.defers } y.dst u h3, wanted_put x { a with defers := d :: a.defers } y.dst u h3⟩
 have e1 := wanted_put y a x.dst v h1
 have e2 := execOp_put y hy a x.dst v h1
 unfold wpOp at h ⊢
 simp only [hj] at h ⊢
 rw [e1] at h
 by_cases hw : Region.wanted y (yielded ops a.tmps) = true
 · rw [if_pos hw] at h ⊢
   rcases h with h | ⟨ha, hl⟩
   · left
     unfold Oper.wp at h ⊢
     rw [e2] at h
     exact upon_late h2 hQ (fun a' => execOp a'.eval x = execOp a.eval x ∧ Region.wanted x (yielded ops a'.tmps) = Region.wanted x (yielded ops a.tmps)) hR hD h
   · right
     unfold Oper.asks at ha ⊢
     rw [e2] at ha
     exact ⟨ha, hl⟩
 · rw [if_neg hw] at h ⊢
   exact ⟨hR _, (Act.put_comm a v undef h2) ▸ h⟩
def wpIn (P : Program) (md : Region.Mode) (ops : Array Oper) (Q : Exit → Act → World → Prop) (C : World → Prop) : Nat → Array Bool → Act → World → Prop
 | 0, listed, a, w => C w ∧ Region.ready md ops listed = [] ∧ Q .normal a w
 | n + 1, listed, a, w => C w ∧ (Region.ready md ops listed = [] → Q .normal a w) ∧ ∀ i ∈ Region.ready md ops listed, wpOp P ops Q i (wpIn P md ops Q C n (listed.setIfInBounds i true)) a w
theorem wpIn.any : ∀ {n : Nat} {listed : Array Bool} {a : Act} {w : World}, wpIn P md ops Q C n listed a w → wpAny P md ops Q n listed a w
 | 0, _, _, _, h => h.2
 | _ + 1, _, _, _, h => ⟨h.2.1, fun i hi => wpOp_mono (fun _ _ h' => wpIn.any h') (h.2.2 i hi)⟩
def Quiet (P : Program) (ops : Array Oper) (C : World → Prop) (o : Oper) (v : Value) (a : Act) : Prop :=
 (Region.wanted o (yielded ops a.tmps) = true ∧ ∀ w, C w → (execOp a.eval o).run P w = .ok (.value v) w) ∨ (Region.wanted o (yielded ops a.tmps) = false ∧ v = undef)
theorem Quiet.op {i : Nat} {o : Oper} {v : Value} {a : Act} (hi : ops[i]? = some o) (hy : Quiet P ops C o v a) {K : Act → World → Prop} {w : World} (hC : C w) (h : K (a.put o.dst v) w) : wpOp P ops Q i K a w := by
 unfold wpOp
 rw [hi]
 simp only
 rcases hy with ⟨hw, hv⟩ | ⟨hw, rfl⟩
 · rw [if_pos hw]
   left
   unfold Oper.wp
   rw [hv w hC]
   exact h
 · rw [if_neg (by rw [hw]; exact Bool.false_ne_true)]
   exact h
theorem wpIn_first {i : Nat} {o : Oper} {v : Value} (hi : ops[i]? = some o) (hs : Region.noSelect ops = true) (hQ : ∀ c a w, Q (.panic c) (a.put o.dst v) w → Q (.panic c) a w) :
    ∀ (n : Nat) (listed : Array Bool) (a : Act) (w : World),
     (∀ j y, ops[j]? = some y → j ≠ i → listed.getD j true = false → (∀ e ∈ y.after, Region.binds md e = true → e.on ≠ i) → o.apart ops y = true) →
     i ∈ Region.ready md ops listed → Quiet P ops C o v a → wpIn P md ops Q C n (listed.setIfInBounds i true) (a.put o.dst v) w → wpIn P md ops Q C (n + 1) listed a w := by
 intro n
 induction n with
 | zero =>
  intro listed a w _ hr hy H
  refine ⟨H.1, fun h => (by rw [h] at hr; cases hr), fun j hj => ?_⟩
  by_cases hji : j = i
  · subst hji; exact hy.op hi H.1 H
  · have h' := ready_mono hj hji
    rw [H.2.1] at h'
    cases h'
 | succ n ih =>
  intro listed a w hfree hr hy H
  refine ⟨H.1, fun h => (by rw [h] at hr; cases hr), fun j hj => ?_⟩
  by_cases hji : j = i
  · subst hji; exact hy.op hi H.1 H
  · obtain ⟨hjun, y, hoy, hall⟩ := mem_ready.1 hj
    have hnot : ∀ e ∈ y.after, Region.binds md e = true → e.on ≠ i := by
     intro e he hb heq
     have g1 := hall e he hb
     have g0 := (mem_ready.1 hr).1
     rw [heq] at g1
     by_cases hin : i < listed.size
     · simp [hin] at g0 g1
       rw [g0] at g1
       cases g1
     · simp [hin] at g1
    have h2 := wpOp_late hoy (hfree j y hoy hji hjun hnot) (fun cs b => Region.noSelect_spec hs i o cs b hi) (fun cs b => Region.noSelect_spec hs j y cs b hoy) hQ (H.2.2 j (ready_mono hj hji))
    refine wpOp_mono (fun a' w' h3 => ih (listed.setIfInBounds j true) a' w' ?_ (ready_mono hr (Ne.symm hji)) ?_ ?_) h2
    · intro k z hk hki hun hno
      refine hfree k z hk hki ?_ hno
      by_cases hjk : j = k
      · subst hjk; exact hjun
      · rw [getD_set_ne true hjk] at hun; exact hun
    · unfold Quiet at hy ⊢
      rw [h3.1.1, h3.1.2]
      exact hy
    · rw [Array.setIfInBounds_comm _ _ hji]
      exact h3.2
theorem wpIn_take {i : Nat} {o : Oper} {v : Value} {d : Option Tmp} {n : Nat} {listed : Array Bool} {a a' : Act} {w : World} (hi : ops[i]? = some o) (hd : o.dst = d)
    (hs : Region.noSelect ops = true) (hf : Region.free md ops listed i = true) (hr : (Region.ready md ops listed).contains i = true)
    (hQ : ∀ c a w, Q (.panic c) (a.put d v) w → Q (.panic c) a w) (hy : Quiet P ops C o v a) (ha : a.put d v = a')
    (h : wpIn P md ops Q C n (listed.setIfInBounds i true) a' w) : wpIn P md ops Q C (n + 1) listed a w := by
 subst hd ha
 exact wpIn_first hi hs hQ n listed a w (Region.free_spec hi hf) (by simpa using hr) hy h
theorem wpIn_tk {i : Nat} {o : Oper} {v : Value} {d : Option Tmp} {n : Nat} {listed : Array Bool} {a a' : Act} {w : World} (hi : ops[i]? = some o)
    (h : wpIn P md ops Q C n (listed.setIfInBounds i true) a' w) (hd : o.dst = d := by rfl) (hw : Region.wanted o (yielded ops a.tmps) = true := by rfl) (hy : ∀ w, C w → (execOp a.eval o).run P w = .ok (.value v) w := by (intro wq hq; go_simp; first | done | with_reducible rfl)) (ha : a.put d v = a' := by (go_frame; rfl))
    (hs : Region.noSelect ops = true := by kernel_rfl) (hf : Region.free md ops listed i = true := by kernel_rfl) (hr : (Region.ready md ops listed).contains i = true := by kernel_rfl)
    (hQ : ∀ c a w, Q (.panic c) (a.put d v) w → Q (.panic c) a w := by exact fun _ _ _ h => h) : wpIn P md ops Q C (n + 1) listed a w :=
 wpIn_take hi hd hs hf hr hQ (Or.inl ⟨hw, hy⟩) ha h
theorem wpIn_tp {i : Nat} {o : Oper} {v : Value} {d : Option Tmp} {n : Nat} {listed : Array Bool} {a a' : Act} {w : World} (hi : ops[i]? = some o)
    (hy : ∀ w, C w → (execOp a.eval o).run P w = .ok (.value v) w) (h : wpIn P md ops Q C n (listed.setIfInBounds i true) a' w)
    (ha : a.put d v = a' := by (go_frame; rfl)) (hd : o.dst = d := by rfl) (hw : Region.wanted o (yielded ops a.tmps) = true := by rfl)
    (hs : Region.noSelect ops = true := by kernel_rfl) (hf : Region.free md ops listed i = true := by kernel_rfl) (hr : (Region.ready md ops listed).contains i = true := by kernel_rfl)
    (hQ : ∀ c a w, Q (.panic c) (a.put d v) w → Q (.panic c) a w := by exact fun _ _ _ h => h) : wpIn P md ops Q C (n + 1) listed a w :=
 wpIn_take hi hd hs hf hr hQ (Or.inl ⟨hw, hy⟩) ha h
theorem wpIn_only {i : Nat} {n : Nat} {listed : Array Bool} {a : Act} {w : World} (hC : C w) (hr : Region.ready md ops listed = [i])
    (h : wpOp P ops Q i (wpIn P md ops Q C n (listed.setIfInBounds i true)) a w) : wpIn P md ops Q C (n + 1) listed a w :=
 ⟨hC, fun h0 => (by rw [hr] at h0; cases h0), fun j hj => by rw [hr] at hj; rw [List.mem_singleton.1 hj]; exact h⟩
theorem wpIn_do {i : Nat} {o : Oper} {n : Nat} {listed : Array Bool} {a : Act} {w : World} (hC : C w) (hr : Region.ready md ops listed = [i]) (hi : ops[i]? = some o) (hw : Region.wanted o (yielded ops a.tmps) = true)
    (h : ∀ K' : Act → World → Prop, (∀ a w, wpIn P md ops Q C n (listed.setIfInBounds i true) a w → K' a w) → Oper.wp P o a w K' Q) : wpIn P md ops Q C (n + 1) listed a w := by
 refine wpIn_only hC hr ?_
 unfold wpOp
 rw [hi]
 simp only
 rw [if_pos hw]
 exact .inl (h _ fun _ _ h' => h')
theorem wpIn_done {listed : Array Bool} {a : Act} {w : World} (hC : C w) (hr : Region.ready md ops listed = []) (h : Q .normal a w) : ∀ n, wpIn P md ops Q C n listed a w
 | 0 => ⟨hC, hr, h⟩
 | _ + 1 => ⟨hC, fun _ => h, fun i hi => by rw [hr] at hi; cases hi⟩
theorem wp_region_in {id : Nat} {a : Act} {w : World} (hm : P.follows .mixedOrders = true) (C : World → Prop)
    (h : wpIn P .any ops Q C ops.size (Array.replicate ops.size false) a { w with drawn := w.drawn + 1 }) : (Code.region id ops true).wp P Q a w :=
 wp_region_any hm h.any
end
end Go.Proofs.YtimhpglfolbomabGreat
namespace Go.Proofs.YtimhpglfolbomabGreat.Id
def ints (s : ByteArray) : List Int := s.data.toList.map fun c => (c.toNat : Int)
theorem ints_length (s : ByteArray) : (ints s).length = s.size := by simp [ints]
theorem ints_getD (s : ByteArray) (k : Nat) (h : k < s.size) : (ints s).getD k 0 = (s[k].toNat : Int) := by
 have h' : k < s.data.toList.length := by simpa using h
 simp only [ints, List.getD_eq_getElem?_getD, List.getElem?_map, List.getElem?_eq_getElem h', Option.map_some, Option.getD_some]
 rfl
theorem ints_bd (s : ByteArray) : ∀ x ∈ ints s, 0 ≤ x ∧ x ≤ 255 := by
 intro x hx
 simp only [ints, List.mem_map] at hx
 obtain ⟨c, _, rfl⟩ := hx
 have := c.toNat_lt
 omega
theorem ints_extract (s : ByteArray) (k : Nat) : ints (s.extract k s.size) = (ints s).drop k := by
 simp only [ints, ByteArray.data_extract, Array.toList_extract, List.extract_eq_take_drop, List.map_take, List.map_drop]
 rw [List.take_of_length_le]
 have : (List.drop k (List.map (fun c : UInt8 => (c.toNat : Int)) s.data.toList)).length = s.size - k := by simp
 omega
end Go.Proofs.YtimhpglfolbomabGreat.Id
namespace Go.Proofs.YtimhpglfolbomabGreat.Id
open Go.RowKit
theorem ret_bool {a b : Bool} (h : a = b) : Ending.returned (.bool a) = .returned (.bool b) := by rw [h]
theorem liteIndexByte_any (s : ByteArray) (c : Int) (w : World) :
    Calls Tryz.prog 141 #[.string s, .int .u8 c] w fun e w' => e = .returned (.int .i64 (Lib.indexByte s.data.toList c.toNat.toUInt8)) ∧ w = w' := by
 go_enter Tryz.func141, Tryz.ntmps141
 go_wp2
 rw [run_callFunc_extern Tryz.func147 (by kernel_rfl) (by kernel_rfl) (by kernel_rfl) (e := Extern.BytealgIndexByte.indexByte) (by kernel_rfl), Lib.run_indexByteString]
 simp only [Result.andThen]
 rw [Oper.upon_value]
 go_wp2
 go_ret
 exact ⟨rfl, rfl⟩
theorem indexByte_any (s : ByteArray) (c : Int) (w : World) :
    Calls Tryz.prog 127 #[.string s, .int .u8 c] w fun e w' => e = .returned (.int .i64 (Lib.indexByte s.data.toList c.toNat.toUInt8)) ∧ w = w' := by
 go_enter Tryz.func127, Tryz.ntmps127
 go_wp2_with (go_at_call 141; refine (liteIndexByte_any _ _ _).mono ?_; rintro e w' ⟨rfl, rfl⟩)
 go_ret
 exact ⟨rfl, rfl⟩
def kind (o : List UInt8) (c : Int) : Bool := (decide (97 ≤ c) && decide (c ≤ 122)) || (decide (48 ≤ c) && decide (c ≤ 57)) || decide (0 ≤ Lib.indexByte o c.toNat.toUInt8)
theorem letter_clo (o : ByteArray) (c : Int) (B : Nat) (w : World) (hc : w.cell? ⟨B, 0, none⟩ = some (.string o)) (h0 : 0 ≤ c) (h1 : c ≤ 255) :
    Calls Tryz.prog 126 #[.int .u8 c, .pointer (some ⟨B, 0, none⟩)] w fun e w' => e = .returned (.bool (kind o.data.toList c)) ∧ w = w' := by
 go_enter Tryz.func126, Tryz.ntmps126
 go_wp2_with (go_at_call 127; refine (indexByte_any _ _ _).mono ?_; rintro e w' ⟨rfl, rfl⟩)
 all_goals
  go_ret
  refine ⟨ret_bool ?_, rfl⟩
  unfold kind
  rw [Bool.eq_iff_iff]
  simp
  omega
def okText (k : Int → Bool) (m : Int) (s : ByteArray) : Bool := decide (1 ≤ s.size) && decide ((s.size : Int) ≤ m) && (ints s).all k
theorem okText_long (k : Int → Bool) (m : Int) (s : ByteArray) (h : m < s.size) : okText k m s = false := by
 unfold okText; simp; omega
theorem okText_none (k : Int → Bool) (m : Int) (s : ByteArray) (h : s.size = 0) : okText k m s = false := by
 unfold okText; simp [h]
theorem okText_all (k : Int → Bool) (m : Int) (s : ByteArray) (h : 1 ≤ s.size) (h' : (s.size : Int) ≤ m) (ha : ∀ j, j < s.size → k ((ints s).getD j 0) = true) : okText k m s = true := by
 unfold okText
 simp only [h, h', decide_true, Bool.true_and, List.all_eq_true]
 intro x hx
 obtain ⟨i, hi, rfl⟩ := List.mem_iff_getElem.1 hx
 have := ha i (by rw [← ints_length]; exact hi)
 rw [List.getD_eq_getElem?_getD, List.getElem?_eq_getElem hi] at this
 exact this
theorem okText_bad (k : Int → Bool) (m : Int) (s : ByteArray) (j : Nat) (hj : j < s.size) (ha : k ((ints s).getD j 0) = false) : okText k m s = false := by
 unfold okText
 have hj' : j < (ints s).length := by rw [ints_length]; exact hj
 have : (ints s).all k = false := by
  rw [List.all_eq_false]
  refine ⟨(ints s)[j], List.getElem_mem hj', ?_⟩
  rw [List.getD_eq_getElem?_getD, List.getElem?_eq_getElem hj'] at ha
  simpa using ha
 rw [this]; simp
theorem fits_any (s o : ByteArray) (m : Int) (B : Nat) (w : World) (hs : s.size ≤ 140737488351232) (hc : w.cell? ⟨B, 0, none⟩ = some (.string o)) :
    Calls Tryz.prog 110 #[.string s, .int .i64 m, .func (.func 126) #[] #[.pointer (some ⟨B, 0, none⟩)]] w fun e w' => e = .returned (.bool (okText (kind o.data.toList) m s)) ∧ w = w' := by
 by_cases he : s.size = 0
 · have he' : (s.size : Int) = 0 := by omega
   go_enter Tryz.func110, Tryz.ntmps110
   go_wp2
   go_ret
   exact ⟨ret_bool (okText_none _ _ _ he).symm, rfl⟩
 by_cases hm : m < (s.size : Int)
 · go_enter Tryz.func110, Tryz.ntmps110
   go_wp2
   go_ret
   exact ⟨ret_bool (okText_long _ _ _ hm).symm, rfl⟩
 go_enter Tryz.func110, Tryz.ntmps110
 go_wp2
 go_loop [19] (fun i => ∃ k : Nat, k ≤ s.size ∧ i = .int .i64 k ∧ ∀ j, j < k → kind o.data.toList ((ints s).getD j 0) = true) (fun i => s.size - (intOf i).toNat)
 case atStart => exact ⟨0, Nat.zero_le _, rfl, fun j hj => by omega⟩
 case round =>
  obtain ⟨k, hk, rfl, hall⟩ := hrel
  have HA : Hid (∀ j, j < k → kind o.data.toList ((ints s).getD j 0) = true) := hall
  clear hall
  by_cases hlt : k < s.size
  · have HG : Hid ((ints s).getD k 0 = (s[k].toNat : Int)) := ints_getD s k hlt
    have hb1 : (s[k].toNat : Int) ≤ 255 := by have := s[k].toNat_lt; omega
    by_cases hb : kind o.data.toList (s[k].toNat : Int) = true
    · go_wp2_with (go_at_call 126; refine (letter_clo o _ B _ hc (by omega) (by omega)).mono ?_; rintro e w' ⟨rfl, rfl⟩)
      go_round
      case rel => exact ⟨k + 1, by omega, by go_num, fun j hj => by
                            by_cases e : j = k
                            · rw [e, HG.out]; exact hb
                            · exact HA.out j (by omega)⟩
      case measure => simp [intOf]; omega
    · have hb' : kind o.data.toList (s[k].toNat : Int) = false := by simpa using hb
      clear hb
      go_wp2_with (go_at_call 126; refine (letter_clo o _ B _ hc (by omega) (by omega)).mono ?_; rintro e w' ⟨rfl, rfl⟩)
      go_ret
      exact ⟨ret_bool (okText_bad _ _ _ k hlt (by rw [HG.out]; exact hb')).symm, rfl⟩
  · obtain rfl : k = s.size := by omega
    go_wp2
    go_ret
    exact ⟨ret_bool (okText_all _ _ _ (by omega) (by omega) HA.out).symm, rfl⟩
def small (c : Int) : Bool := (decide (97 ≤ c) && decide (c ≤ 122)) || (decide (48 ≤ c) && decide (c ≤ 57)) || decide (c = 46)
def kSrv (c : Int) : Bool := small c || decide (c = 45)
def kLoc (c : Int) : Bool := small c || decide (c = 45) || decide (c = 95)
def kTyp (c : Int) : Bool := small c || decide (c = 95)
def srv (s : ByteArray) : Bool := okText kSrv 32 s
def loc (s : ByteArray) : Bool := okText kLoc 32 s
def typ (s : ByteArray) : Bool := okText kTyp 64 s
theorem kind_srv : ∀ n : Fin 256, kind [46, 45] (n.val : Int) = kSrv n.val := by decide +kernel
theorem kind_loc : ∀ n : Fin 256, kind [46, 95, 45] (n.val : Int) = kLoc n.val := by decide +kernel
theorem kind_typ : ∀ n : Fin 256, kind [46, 95] (n.val : Int) = kTyp n.val := by decide +kernel
theorem okText_congr {k k' : Int → Bool} (h : ∀ n : Fin 256, k (n.val : Int) = k' n.val) (m : Int) (s : ByteArray) : okText k m s = okText k' m s := by
 unfold okText
 congr 1
 rw [Bool.eq_iff_iff, List.all_eq_true, List.all_eq_true]
 constructor <;> intro ha x hx
 · have hb := ints_bd s x hx
   have := h ⟨x.toNat, by omega⟩
   have e : ((x.toNat : Nat) : Int) = x := by omega
   rw [e] at this
   rw [← this]; exact ha x hx
 · have hb := ints_bd s x hx
   have := h ⟨x.toNat, by omega⟩
   have e : ((x.toNat : Nat) : Int) = x := by omega
   rw [e] at this
   rw [this]; exact ha x hx
theorem cell_new (w : World) (v : Value) (t : Nat) : (w.alloc (.cells #[v] t)).cell? ⟨w.heap.size, 0, none⟩ = some v :=
 World.cell?_alloc_at _ _ _ _ rfl
theorem letterOr_any (o : ByteArray) (w : World) :
    Calls Tryz.prog 111 #[.string o] w fun e w' => e = .returned (.func (.func 126) #[] #[.pointer (some ⟨w.heap.size, 0, none⟩)]) ∧ w' = w.alloc (.cells #[.string o] 9) := by
 go_enter Tryz.func111, Tryz.ntmps111
 go_wp2
 go_ret
 exact ⟨rfl, rfl⟩
theorem server_any (s : ByteArray) (w : World) (hs : s.size ≤ 140737488351232) :
    Calls Tryz.prog 140 #[.string s] w fun e w' => e = .returned (.bool (srv s)) ∧ Below w.heap.size w w' := by
 have hc := cell_new w (.string ⟨#[46, 45]⟩) 9
 go_enter Tryz.func140, Tryz.ntmps140
 go_wp2_with (first
  | (go_at_call 111; refine (letterOr_any _ _).mono ?_; rintro e w' ⟨rfl, rfl⟩)
  | (go_at_call 110; refine (fits_any s _ 32 _ _ hs hc).mono ?_; rintro e w' ⟨rfl, rfl⟩))
 go_ret
 exact ⟨ret_bool (okText_congr kind_srv 32 s), (Below.refl _ _).alloc (Nat.le_refl _) _⟩
theorem local_any (s : ByteArray) (w : World) (hs : s.size ≤ 140737488351232) :
    Calls Tryz.prog 139 #[.string s] w fun e w' => e = .returned (.bool (loc s)) ∧ Below w.heap.size w w' := by
 have hc := cell_new w (.string ⟨#[46, 95, 45]⟩) 9
 go_enter Tryz.func139, Tryz.ntmps139
 go_wp2_with (first
  | (go_at_call 111; refine (letterOr_any _ _).mono ?_; rintro e w' ⟨rfl, rfl⟩)
  | (go_at_call 110; refine (fits_any s _ 32 _ _ hs hc).mono ?_; rintro e w' ⟨rfl, rfl⟩))
 go_ret
 exact ⟨ret_bool (okText_congr kind_loc 32 s), (Below.refl _ _).alloc (Nat.le_refl _) _⟩
theorem type_any (s : ByteArray) (w : World) (hs : s.size ≤ 140737488351232) :
    Calls Tryz.prog 81 #[.string s] w fun e w' => e = .returned (.bool (typ s)) ∧ Below w.heap.size w w' := by
 have hc := cell_new w (.string ⟨#[46, 95]⟩) 9
 go_enter Tryz.func81, Tryz.ntmps81
 go_wp2_with (first
  | (go_at_call 111; refine (letterOr_any _ _).mono ?_; rintro e w' ⟨rfl, rfl⟩)
  | (go_at_call 110; refine (fits_any s _ 64 _ _ hs hc).mono ?_; rintro e w' ⟨rfl, rfl⟩))
 go_ret
 exact ⟨ret_bool (okText_congr kind_typ 64 s), (Below.refl _ _).alloc (Nat.le_refl _) _⟩
def nix : ByteArray := ⟨#[]⟩
def parts (c : Int) (s : ByteArray) : ByteArray × ByteArray × Bool :=
 if 0 < s.size ∧ (ints s).getD 0 0 = c ∧ ((ints s).drop 1).findIdx (· == 58) + 1 < s.size ∧ loc (s.extract 1 (((ints s).drop 1).findIdx (· == 58) + 1)) = true ∧ srv (s.extract (((ints s).drop 1).findIdx (· == 58) + 2) s.size) = true
 then (s.extract 1 (((ints s).drop 1).findIdx (· == 58) + 1), s.extract (((ints s).drop 1).findIdx (· == 58) + 2) s.size, true) else (nix, nix, false)
theorem getD_drop1 (l : List Int) (j : Nat) : (l.drop 1).getD j 0 = l.getD (j + 1) 0 := by
 simp [List.getD_eq_getElem?_getD]
theorem find_hit (l : List Int) (k : Nat) (hk : k < l.length) (hc : l.getD k 0 = 58) (ha : ∀ j, j < k → l.getD j 0 ≠ 58) : l.findIdx (· == 58) = k := by
 induction l generalizing k with
 | nil => simp at hk
 | cons a l ih =>
  rw [List.findIdx_cons]
  match k with
  | 0 => simp at hc; simp [hc]
  | k + 1 =>
   have h0 := ha 0 (by omega)
   simp only [List.getD_cons_zero] at h0
   have h1 : (a == 58) = false := by simp [h0]
   rw [h1]
   simp only [cond_false]
   rw [ih k (by simpa using hk) (by simpa using hc) (fun j hj => by simpa using ha (j + 1) (by omega))]
theorem find_miss (l : List Int) (ha : ∀ j, j < l.length → l.getD j 0 ≠ 58) : l.findIdx (· == 58) = l.length := by
 induction l with
 | nil => rfl
 | cons a l ih =>
  have h0 := ha 0 (by simp)
  simp only [List.getD_cons_zero] at h0
  have h1 : (a == 58) = false := by simp [h0]
  rw [List.findIdx_cons, h1]
  simp only [cond_false]
  rw [ih (fun j hj => by simpa using ha (j + 1) (by simpa using hj))]
  simp
theorem idx_hit (l : List UInt8) (k : Nat) (hk : k < l.length) (hc : (l.map fun c => (c.toNat : Int)).getD k 0 = 58) (ha : ∀ j, j < k → (l.map fun c => (c.toNat : Int)).getD j 0 ≠ 58) : Lib.indexByte l 58 = k := by
 induction l generalizing k with
 | nil => simp at hk
 | cons a l ih =>
  unfold Lib.indexByte
  match k with
  | 0 =>
   have : a = 58 := by
    simp at hc
    exact UInt8.toNat_inj.1 (by simpa using (by omega : a.toNat = 58))
   simp [this]
  | k + 1 =>
   have h0 := ha 0 (by omega)
   have h1 : (a == 58) = false := by
    simp only [List.map_cons, List.getD_cons_zero] at h0
    simp only [beq_eq_false_iff_ne, ne_eq]
    intro h; subst h; exact h0 rfl
   rw [h1, ih k (by simpa using hk) (by simpa using hc) (fun j hj => by simpa using ha (j + 1) (by omega))]
   have h2 : ((k : Int) == -1) = false := by simp
   simp [h2]
theorem idx_miss (l : List UInt8) (ha : ∀ j, j < l.length → (l.map fun c => (c.toNat : Int)).getD j 0 ≠ 58) : Lib.indexByte l 58 = -1 := by
 induction l with
 | nil => rfl
 | cons a l ih =>
  unfold Lib.indexByte
  have h0 := ha 0 (by simp)
  have h1 : (a == 58) = false := by
   simp only [List.map_cons, List.getD_cons_zero] at h0
   simp only [beq_eq_false_iff_ne, ne_eq]
   intro h; subst h; exact h0 rfl
  rw [h1, ih (fun j hj => by simpa using ha (j + 1) (by simpa using hj))]
  simp
theorem parts_hit (c : Int) (s : ByteArray) (k : Nat) (h0 : (ints s).getD 0 0 = c) (h1 : 1 ≤ k) (hk : k < s.size) (hc : (ints s).getD k 0 = 58) (ha : ∀ j, 1 ≤ j → j < k → (ints s).getD j 0 ≠ 58) :
    parts c s = if loc (s.extract 1 k) = true ∧ srv (s.extract (k + 1) s.size) = true then (s.extract 1 k, s.extract (k + 1) s.size, true) else (nix, nix, false) := by
 have hf : ((ints s).drop 1).findIdx (· == 58) = k - 1 := by
  refine find_hit _ _ (by simp [ints_length]; omega) ?_ fun j hj => ?_
  · rw [getD_drop1, Nat.sub_add_cancel h1]; exact hc
  · rw [getD_drop1]; exact ha (j + 1) (by omega) (by omega)
 unfold parts
 rw [hf]
 have e1 : k - 1 + 1 = k := by omega
 have e2 : k - 1 + 2 = k + 1 := by omega
 rw [e1, e2]
 by_cases hl : loc (s.extract 1 k) = true ∧ srv (s.extract (k + 1) s.size) = true
 · rw [if_pos hl, if_pos ⟨by omega, h0, hk, hl.1, hl.2⟩]
 · rw [if_neg hl, if_neg fun h => hl ⟨h.2.2.2.1, h.2.2.2.2⟩]
theorem parts_other (c : Int) (s : ByteArray) (h : s.size = 0 ∨ (ints s).getD 0 0 ≠ c ∨ ∀ j, 1 ≤ j → j < s.size → (ints s).getD j 0 ≠ 58) : parts c s = (nix, nix, false) := by
 unfold parts
 rw [if_neg]
 intro ⟨g0, g1, g2, _⟩
 rcases h with h | h | h
 · omega
 · exact h g1
 · have : ((ints s).drop 1).findIdx (· == 58) = ((ints s).drop 1).length := find_miss _ fun j hj => by
     rw [getD_drop1]; exact h (j + 1) (by omega) (by simp [ints_length] at hj; omega)
   rw [this] at g2
   simp [ints_length] at g2
   omega
theorem colon_cases (s : ByteArray) : (∃ k, 1 ≤ k ∧ k < s.size ∧ (ints s).getD k 0 = 58 ∧ ∀ j, 1 ≤ j → j < k → (ints s).getD j 0 ≠ 58) ∨ ∀ j, 1 ≤ j → j < s.size → (ints s).getD j 0 ≠ 58 := by
 have : ∀ n, (∃ k, 1 ≤ k ∧ k < n ∧ (ints s).getD k 0 = 58 ∧ ∀ j, 1 ≤ j → j < k → (ints s).getD j 0 ≠ 58) ∨ ∀ j, 1 ≤ j → j < n → (ints s).getD j 0 ≠ 58 := by
  intro n
  induction n with
  | zero => exact .inr fun j _ hj => by omega
  | succ n ih =>
   rcases ih with ⟨k, h1, h2, h3, h4⟩ | h
   · exact .inl ⟨k, h1, by omega, h3, h4⟩
   · by_cases hn : 1 ≤ n ∧ (ints s).getD n 0 = 58
     · exact .inl ⟨n, hn.1, by omega, hn.2, h⟩
     · refine .inr fun j h1 h2 => ?_
       by_cases e : j = n
       · subst e; exact fun he => hn ⟨h1, he⟩
       · exact h j h1 (by omega)
 exact this s.size
theorem cut_name (s : ByteArray) (k : Nat) (h1 : 1 ≤ k) (hk : k ≤ s.size) : (s.extract 1 s.size).extract 0 (k - 1) = s.extract 1 k := by
 rw [ByteArray.extract_extract]
 congr 1
 omega
theorem cut_server (s : ByteArray) (k : Nat) : (s.extract 1 s.size).extract k (s.extract 1 s.size).size = s.extract (k + 1) s.size := by
 rw [ByteArray.extract_extract]
 simp
 congr 1
 all_goals omega
theorem below_drewN (w : World) : ∀ n, Below w.heap.size w (w.drewN n)
 | 0 => by rw [World.drewN_zero]; exact Below.refl _ _
 | n + 1 => by rw [← World.drew_drewN]; exact (below_drewN w n).drew
theorem take_one' (l : List UInt8) (h : 0 < l.length) : l.take 1 = [l[0]] := by
 cases l with
 | nil => simp at h
 | cons a l => simp
theorem one_head (s : ByteArray) (h : 0 < s.size) : (s.extract 0 1).toList = [s[0]] := by
 rw [Lib.toList_data, ByteArray.data_extract, Array.toList_extract]
 simp only [List.extract_eq_take_drop, List.drop_zero, Nat.sub_zero]
 rw [take_one' _ (by simpa using h)]
 simp [ByteArray.getElem_eq_getElem_data]
theorem hasPrefix_yes (s : ByteArray) (c : UInt8) (w : World) (hs : s.size ≤ 140737488351232) (h : 0 < s.size) (hc : s[0] = c) :
    Calls Tryz.prog 150 #[.string s, .string ⟨#[c]⟩] w fun e w' => e = .returned (.bool true) ∧ w = w' := by
 have h1 : ((s.extract 0 1).toList == [c]) = true := by rw [one_head s h, hc]; simp
 go_enter Tryz.func150, Tryz.ntmps150
 go_wp2
 go_ret
 exact ⟨rfl, rfl⟩
theorem hasPrefix_no (s : ByteArray) (c : UInt8) (w : World) (hs : s.size ≤ 140737488351232) (h : ∀ h : 0 < s.size, s[0] ≠ c) :
    Calls Tryz.prog 150 #[.string s, .string ⟨#[c]⟩] w fun e w' => e = .returned (.bool false) ∧ w = w' := by
 by_cases h0 : 0 < s.size
 · have h1 : ((s.extract 0 1).toList == [c]) = false := by rw [one_head s h0]; simp [h h0]
   go_enter Tryz.func150, Tryz.ntmps150
   go_wp2
   go_ret
   exact ⟨rfl, rfl⟩
 · go_enter Tryz.func150, Tryz.ntmps150
   go_wp2
   go_ret
   exact ⟨rfl, rfl⟩
theorem liteCutPrefix_yes (s : ByteArray) (c : UInt8) (w : World) (hs : s.size ≤ 140737488351232) (h : 0 < s.size) (hc : s[0] = c) :
    Calls Tryz.prog 145 #[.string s, .string ⟨#[c]⟩] w fun e w' => e = .returned (.tuple #[.string (s.extract 1 s.size), .bool true]) ∧ w = w' := by
 go_enter Tryz.func145, Tryz.ntmps145
 go_wp2_with (go_at_call 150; refine (hasPrefix_yes s c _ hs h hc).mono ?_; rintro e w' ⟨rfl, rfl⟩)
 go_ret2
 exact ⟨rfl, rfl⟩
theorem liteCutPrefix_no (s : ByteArray) (c : UInt8) (w : World) (hs : s.size ≤ 140737488351232) (h : ∀ h : 0 < s.size, s[0] ≠ c) :
    Calls Tryz.prog 145 #[.string s, .string ⟨#[c]⟩] w fun e w' => e = .returned (.tuple #[.string s, .bool false]) ∧ w = w' := by
 go_enter Tryz.func145, Tryz.ntmps145
 go_wp2_with (go_at_call 150; refine (hasPrefix_no s c _ hs h).mono ?_; rintro e w' ⟨rfl, rfl⟩)
 go_ret2
 exact ⟨rfl, rfl⟩
theorem cutPrefix_yes (s : ByteArray) (c : UInt8) (w : World) (hs : s.size ≤ 140737488351232) (h : 0 < s.size) (hc : s[0] = c) :
    Calls Tryz.prog 137 #[.string s, .string ⟨#[c]⟩] w fun e w' => e = .returned (.tuple #[.string (s.extract 1 s.size), .bool true]) ∧ w = w' := by
 go_enter Tryz.func137, Tryz.ntmps137
 go_wp2_with (go_at_call 145; refine (liteCutPrefix_yes s c _ hs h hc).mono ?_; rintro e w' ⟨rfl, rfl⟩)
 go_ret2
 exact ⟨rfl, rfl⟩
theorem cutPrefix_no (s : ByteArray) (c : UInt8) (w : World) (hs : s.size ≤ 140737488351232) (h : ∀ h : 0 < s.size, s[0] ≠ c) :
    Calls Tryz.prog 137 #[.string s, .string ⟨#[c]⟩] w fun e w' => e = .returned (.tuple #[.string s, .bool false]) ∧ w = w' := by
 go_enter Tryz.func137, Tryz.ntmps137
 go_wp2_with (go_at_call 145; refine (liteCutPrefix_no s c _ hs h).mono ?_; rintro e w' ⟨rfl, rfl⟩)
 go_ret2
 exact ⟨rfl, rfl⟩
theorem index_one (s : ByteArray) (w : World) :
    Calls Tryz.prog 151 #[.string s, .string ⟨#[58]⟩] w fun e w' => e = .returned (.int .i64 (Lib.indexByte s.data.toList 58)) ∧ w = w' := by
 go_enter Tryz.func151, Tryz.ntmps151
 go_wp2_with (go_at_call 141; refine (liteIndexByte_any _ _ _).mono ?_; rintro e w' ⟨rfl, rfl⟩)
 · have h : ([58] == s.toList) = true := by assumption
   go_ret
   refine ⟨?_, rfl⟩
   have e : s.data.toList = [58] := by rw [← Lib.toList_data]; exact (beq_iff_eq.1 h).symm
   rw [e]
   simp [Lib.indexByte]
 · go_ret
   exact ⟨rfl, rfl⟩
theorem liteCut_no (t : ByteArray) (w : World) (hi : Lib.indexByte t.data.toList 58 = -1) :
    Calls Tryz.prog 146 #[.string t, .string ⟨#[58]⟩] w fun e w' => e = .returned (.tuple #[.string t, .string ⟨#[]⟩, .bool false]) ∧ Below w.heap.size w w' := by
 go_enter Tryz.func146, Tryz.ntmps146
 go_wp2_with (go_at_call 151; refine (index_one t _).mono ?_; rw [hi]; rintro e w' ⟨rfl, rfl⟩)
 go_ret3
 exact ⟨rfl, Below.refl _ _⟩
theorem cut_no (t : ByteArray) (w : World) (hi : Lib.indexByte t.data.toList 58 = -1) :
    Calls Tryz.prog 138 #[.string t, .string ⟨#[58]⟩] w fun e w' => e = .returned (.tuple #[.string t, .string ⟨#[]⟩, .bool false]) ∧ Below w.heap.size w w' := by
 go_enter Tryz.func138, Tryz.ntmps138
 go_wp2_with (go_at_call 146; refine (liteCut_no t _ hi).mono ?_; rintro e w' ⟨rfl, hb⟩)
 go_ret3
 exact ⟨rfl, hb⟩
theorem liteCut_yes (t : ByteArray) (k : Nat) (w : World) (hs : t.size ≤ 140737488351232) (hk : k < t.size) (hi : Lib.indexByte t.data.toList 58 = k) :
    Calls Tryz.prog 146 #[.string t, .string ⟨#[58]⟩] w fun e w' => e = .returned (.tuple #[.string (t.extract 0 k), .string (t.extract (k + 1) t.size), .bool true]) ∧ Below w.heap.size w w' := by
 go_enter Tryz.func146, Tryz.ntmps146
 go_wp2_with (go_at_call 151; refine (index_one t _).mono ?_; rw [hi]; rintro e w' ⟨rfl, rfl⟩)
 go_quiet (fail)
 go_wp2
 go_ret3
 exact ⟨rfl, below_drewN _ _⟩
theorem cut_yes (t : ByteArray) (k : Nat) (w : World) (hs : t.size ≤ 140737488351232) (hk : k < t.size) (hi : Lib.indexByte t.data.toList 58 = k) :
    Calls Tryz.prog 138 #[.string t, .string ⟨#[58]⟩] w fun e w' => e = .returned (.tuple #[.string (t.extract 0 k), .string (t.extract (k + 1) t.size), .bool true]) ∧ Below w.heap.size w w' := by
 go_enter Tryz.func138, Tryz.ntmps138
 go_wp2_with (go_at_call 146; refine (liteCut_yes t k _ hs hk hi).mono ?_; rintro e w' ⟨rfl, hb⟩)
 go_ret3
 exact ⟨rfl, hb⟩
def told (p : ByteArray × ByteArray × Bool) : Value := .tuple #[.string p.1, .string p.2.1, .bool p.2.2]
theorem ret_told {a b : ByteArray} {t : Bool} {p : ByteArray × ByteArray × Bool} (h : p = (a, b, t)) : Ending.returned (.tuple #[.string a, .string b, .bool t]) = .returned (told p) := by rw [h]; rfl
theorem u8_int (a c : UInt8) : (a.toNat : Int) = (c.toNat : Int) ↔ a = c := by
 constructor
 · intro h; exact UInt8.toNat_inj.1 (by omega)
 · intro h; rw [h]
theorem apart_any (s : ByteArray) (c : UInt8) (w : World) (hs : s.size ≤ 140737488351232) :
    Calls Tryz.prog 125 #[.string s, .string ⟨#[c]⟩] w fun e w' => e = .returned (told (parts (c.toNat : Int) s)) ∧ Below w.heap.size w w' := by
 by_cases hp : ∀ h : 0 < s.size, s[0] ≠ c
 · have HP : Hid (parts (c.toNat : Int) s = (nix, nix, false)) := by
     refine parts_other _ _ ?_
     by_cases h0 : s.size = 0
     · exact .inl h0
     · refine .inr (.inl ?_)
       rw [ints_getD s 0 (by omega), ne_eq, u8_int]
       exact hp (by omega)
   go_enter Tryz.func125, Tryz.ntmps125
   go_wp2_with (go_at_call 137; refine (cutPrefix_no s c _ hs hp).mono ?_; rintro e w' ⟨rfl, rfl⟩)
   go_ret3
   exact ⟨ret_told HP.out, Below.refl _ _⟩
 · obtain ⟨h0, hc⟩ : ∃ h : 0 < s.size, s[0] = c := by simpa using hp
   clear hp
   have hg : (ints s).getD 0 0 = (c.toNat : Int) := by rw [ints_getD s 0 h0, hc]
   have hsz : (s.extract 1 s.size).size ≤ 140737488351232 := by simp; omega
   have hii : (s.extract 1 s.size).data.toList.map (fun c => (c.toNat : Int)) = (ints s).drop 1 := ints_extract s 1
   rcases colon_cases s with ⟨k, h1, hk, hkc, hka⟩ | hno
   · have hi : Lib.indexByte (s.extract 1 s.size).data.toList 58 = ((k - 1 : Nat) : Int) := by
       refine idx_hit _ _ ?_ ?_ fun j hj => ?_
       · rw [← Lib.size_eq]; simp; omega
       · rw [hii, getD_drop1, Nat.sub_add_cancel h1]; exact hkc
       · rw [hii, getD_drop1]; exact hka (j + 1) (by omega) (by omega)
     have hcut := fun wx : World => cut_yes (s.extract 1 s.size) (k - 1) wx hsz (by simp; omega) hi
     rw [cut_name s k h1 (by omega), Nat.sub_add_cancel h1, cut_server s k] at hcut
     have HP : Hid (parts (c.toNat : Int) s = if loc (s.extract 1 k) = true ∧ srv (s.extract (k + 1) s.size) = true then (s.extract 1 k, s.extract (k + 1) s.size, true) else (nix, nix, false)) := parts_hit _ s k hg h1 hk hkc hka
     have hl1 : (s.extract 1 k).size ≤ 140737488351232 := by simp; omega
     have hl2 : (s.extract (k + 1) s.size).size ≤ 140737488351232 := by simp; omega
     obtain ⟨t1, ht1⟩ : ∃ t, t = s.extract 1 k := ⟨_, rfl⟩
     obtain ⟨t2, ht2⟩ : ∃ t, t = s.extract (k + 1) s.size := ⟨_, rfl⟩
     rw [← ht1, ← ht2] at HP hcut
     rw [← ht1] at hl1
     rw [← ht2] at hl2
     clear ht1 ht2 hi hii hka hkc
     by_cases hL : loc t1 = true
     · by_cases hS : srv t2 = true
       · go_enter Tryz.func125, Tryz.ntmps125
         go_wp2_with (first
          | (go_at_call 137; refine (cutPrefix_yes s c _ hs h0 hc).mono ?_; rintro e w' ⟨rfl, rfl⟩)
          | (go_at_call 138; refine (hcut _).mono ?_; rintro e w1 ⟨rfl, hb1⟩)
          | (go_at_call 139; refine (local_any t1 _ hl1).mono ?_; rintro e w2 ⟨rfl, hb2⟩)
          | (go_at_call 140; refine (server_any t2 _ hl2).mono ?_; rintro e w3 ⟨rfl, hb3⟩))
         go_ret3
         have c2 := hb1.trans (hb2.mono hb1.size)
         exact ⟨ret_told (by rw [HP.out, if_pos ⟨hL, hS⟩]), c2.trans (hb3.mono c2.size)⟩
       · have hS' : srv t2 = false := by simpa using hS
         go_enter Tryz.func125, Tryz.ntmps125
         go_wp2_with (first
          | (go_at_call 137; refine (cutPrefix_yes s c _ hs h0 hc).mono ?_; rintro e w' ⟨rfl, rfl⟩)
          | (go_at_call 138; refine (hcut _).mono ?_; rintro e w1 ⟨rfl, hb1⟩)
          | (go_at_call 139; refine (local_any t1 _ hl1).mono ?_; rintro e w2 ⟨rfl, hb2⟩)
          | (go_at_call 140; refine (server_any t2 _ hl2).mono ?_; rintro e w3 ⟨rfl, hb3⟩))
         go_ret3
         have c2 := hb1.trans (hb2.mono hb1.size)
         exact ⟨ret_told (by rw [HP.out, if_neg (by simp [hS'])]; rfl), c2.trans (hb3.mono c2.size)⟩
     · have hL' : loc t1 = false := by simpa using hL
       clear hL
       go_enter Tryz.func125, Tryz.ntmps125
       go_wp2_with (first
        | (go_at_call 137; refine (cutPrefix_yes s c _ hs h0 hc).mono ?_; rintro e w' ⟨rfl, rfl⟩)
        | (go_at_call 138; refine (hcut _).mono ?_; rintro e w1 ⟨rfl, hb1⟩)
        | (go_at_call 139; refine (local_any t1 _ hl1).mono ?_; rintro e w2 ⟨rfl, hb2⟩))
       go_ret3
       exact ⟨ret_told (by rw [HP.out, if_neg (by simp [hL'])]; rfl), hb1.trans (hb2.mono hb1.size)⟩
   · have hi : Lib.indexByte (s.extract 1 s.size).data.toList 58 = -1 := by
       refine idx_miss _ fun j hj => ?_
       rw [← Lib.size_eq] at hj
       simp at hj
       rw [hii, getD_drop1]; exact hno (j + 1) (by omega) (by omega)
     have HP : Hid (parts (c.toNat : Int) s = (nix, nix, false)) := parts_other _ _ (.inr (.inr hno))
     have hcut := fun wx : World => cut_no (s.extract 1 s.size) wx hi
     go_enter Tryz.func125, Tryz.ntmps125
     go_wp2_with (first
      | (go_at_call 137; refine (cutPrefix_yes s c _ hs h0 hc).mono ?_; rintro e w' ⟨rfl, rfl⟩)
      | (go_at_call 138; refine (hcut _).mono ?_; rintro e w1 ⟨rfl, hb1⟩))
     go_ret3
     exact ⟨ret_told HP.out, hb1⟩
theorem user_any (s : ByteArray) (w : World) (hs : s.size ≤ 140737488351232) :
    Calls Tryz.prog 109 #[.string s] w fun e w' => e = .returned (told (parts 64 s)) ∧ Below w.heap.size w w' := by
 go_enter Tryz.func109, Tryz.ntmps109
 go_wp2_with (go_at_call 125; refine (apart_any s 64 _ hs).mono ?_; rintro e w1 ⟨rfl, hb1⟩; unfold told)
 go_ret3
 exact ⟨rfl, hb1⟩
end Go.Proofs.YtimhpglfolbomabGreat.Id
namespace Go.Proofs.YtimhpglfolbomabGreat
open Go.RowKit
structure Ev where
 room : ByteArray
 typ : ByteArray
 sender : ByteArray
 st : Bool
 key : ByteArray
 content : J
 prev : List ByteArray
 auth : List ByteArray
 depth : Int
 ts : Int
 hash : ByteArray
 sigs : List (ByteArray × ByteArray)
structure Pt where
 pk : Option Addr
 ck : Nat
 pl : Option Addr
 cl : Nat
 pp : Option Addr
 cp : Nat
 pa : Option Addr
 ca : Nat
 ps : Option Addr
 cs : Nat
def Ev.zero : Ev := ⟨nix, nix, nix, false, nix, J.zero, [], [], 0, 0, nix, []⟩
def Pt.zero : Pt := ⟨none, 0, none, 0, none, 0, none, 0, none, 0⟩
def five (j : J) (p : Pt) : List Value := [.int .i64 j.kind, .int .i64 j.int, .string j.text, .slice p.pk j.keys.length p.ck, .slice p.pl j.list.length p.cl]
def cellsE (e : Ev) (p : Pt) : List Value := [.string e.room, .string e.typ, .string e.sender, .bool e.st, .string e.key, .int .i64 e.content.kind, .int .i64 e.content.int, .string e.content.text, .slice p.pk e.content.keys.length p.ck, .slice p.pl e.content.list.length p.cl, .slice p.pp e.prev.length p.cp, .slice p.pa e.auth.length p.ca, .int .i64 e.depth, .int .i64 e.ts, .string e.hash, .slice p.ps e.sigs.length p.cs]
def valE (e : Ev) (p : Pt) : Value := .agg (cellsE e p).toArray
def RdS (O : Nat → Prop) (w : World) (p : Option Addr) (c : Nat) (l : List (ByteArray × ByteArray)) : Prop :=
 l.length ≤ c ∧ ∀ j, j < l.length → ∃ b o, p = some ⟨b, o, none⟩ ∧ O b ∧ w.cell? ⟨b, o + j * 2, none⟩ = some (.string (l.getD j (nix, nix)).1) ∧ w.cell? ⟨b, o + j * 2 + 1, none⟩ = some (.string (l.getD j (nix, nix)).2)
theorem RdS.nil (O : Nat → Prop) (w : World) (c : Nat) (p : Option Addr) : RdS O w p c [] := ⟨Nat.zero_le _, fun j hj => absurd hj (by simp)⟩
theorem RdS.carry {O O' : Nat → Prop} {w w' : World} {p : Option Addr} {c : Nat} {l : List (ByteArray × ByteArray)} (h : RdS O w p c l) (hO : ∀ k, O k → O' k ∧ w'.heap[k]? = w.heap[k]?) : RdS O' w' p c l :=
 ⟨h.1, fun j hj => by
  obtain ⟨b, o, hp, hB, h1, h2⟩ := h.2 j hj
  exact ⟨b, o, hp, (hO _ hB).1, (World.cell?_of_block (a := ⟨b, o + j * 2, none⟩) (hO _ hB).2).trans h1, (World.cell?_of_block (a := ⟨b, o + j * 2 + 1, none⟩) (hO _ hB).2).trans h2⟩⟩
structure IsE (O : Nat → Prop) (w : World) (e : Ev) (p : Pt) : Prop where
 cont : isJ O w e.content (five e.content p)
 prev : RdK O w p.pp p.cp e.prev
 auth : RdK O w p.pa p.ca e.auth
 sigs : RdS O w p.ps p.cs e.sigs
theorem IsE.carry {O O' : Nat → Prop} {w w' : World} {e : Ev} {p : Pt} (h : IsE O w e p) (hO : ∀ k, O k → O' k ∧ w'.heap[k]? = w.heap[k]?) : IsE O' w' e p :=
 ⟨h.cont.carry hO, h.prev.carry hO, h.auth.carry hO, h.sigs.carry hO⟩
end Go.Proofs.YtimhpglfolbomabGreat
namespace Go.Proofs.YtimhpglfolbomabGreat.Od
open Go.RowKit
structure Pa where
 names : List ByteArray
 evs : List Ev
 prev : List (List Int)
 auth : List (List Int)
 den : List Bool
def belowT (l : List Int) (n : Nat) : Bool := l.all fun j => decide (0 ≤ j ∧ j < (n : Int))
def backT (P : List (List Int)) (n : Nat) : Bool := (List.range P.length).all (fun i => belowT (P.getD i []) i) && decide (P.length = n)
def rightT (p : Pa) : Bool := decide (p.names.length = p.evs.length) && decide (p.den.length = p.evs.length) && backT p.prev p.evs.length && backT p.auth p.evs.length
def thereT (n : Nat) (l : List Int) : List Nat := (List.range n).filter fun i => decide ((i : Int) ∈ l)
theorem there_mem {n : Nat} {l : List Int} {x : Nat} : x ∈ thereT n l ↔ x < n ∧ (x : Int) ∈ l := by
 unfold thereT; simp
theorem there_rises (n : Nat) (l : List Int) : (thereT n l).Pairwise (· < ·) := List.Pairwise.filter _ List.pairwise_lt_range
theorem zs_rises {l : List Nat} (h : l.Pairwise (· < ·)) : (zs l).Pairwise (· < ·) := by
 unfold zs
 rw [List.pairwise_map]
 exact h.imp fun hx => by omega
theorem riseN_ext : ∀ {a b : List Nat}, a.Pairwise (· < ·) → b.Pairwise (· < ·) → (∀ x, x ∈ a ↔ x ∈ b) → a = b
 | [], [], _, _, _ => rfl
 | [], y :: s, _, _, h => absurd ((h y).2 (by simp)) (by simp)
 | x :: r, [], _, _, h => absurd ((h x).1 (by simp)) (by simp)
 | x :: r, y :: s, ha, hb, h => by
  rw [List.pairwise_cons] at ha hb
  have hxy : x = y := by
   have h1 : x = y ∨ x ∈ s := by simpa using (h x).1 (by simp)
   have h2 : y = x ∨ y ∈ r := by simpa using (h y).2 (by simp)
   rcases h1 with h1 | h1
   · exact h1
   · rcases h2 with h2 | h2
     · exact h2.symm
     · have := ha.1 y h2; have := hb.1 x h1; omega
  subst hxy
  rw [riseN_ext ha.2 hb.2 fun z => ?_]
  constructor
  · intro hz
    have hlt := ha.1 z hz
    rcases List.mem_cons.1 ((h z).1 (List.mem_cons_of_mem _ hz)) with e | e
    · omega
    · exact e
  · intro hz
    have hlt := hb.1 z hz
    rcases List.mem_cons.1 ((h z).2 (List.mem_cons_of_mem _ hz)) with e | e
    · omega
    · exact e
def BackQ (Q : List (List Nat)) : Prop := ∀ i, ∀ p ∈ par Q i, p < i
theorem back_of {P : List (List Int)} {n : Nat} (h : backT P n = true) : insB P.length P = true ∧ BackQ (toQ P) ∧ P.length = n := by
 unfold backT at h
 rw [Bool.and_eq_true, decide_eq_true_eq, List.all_eq_true] at h
 obtain ⟨h1, h2⟩ := h
 have h3 : ∀ i, i < P.length → ∀ x ∈ P.getD i [], 0 ≤ x ∧ x < (i : Int) := fun i hi x hx => by
  have := h1 i (List.mem_range.2 hi)
  unfold belowT at this
  have := List.all_eq_true.1 this x hx
  simpa using this
 have hI : insB P.length P = true := by
  unfold insB
  rw [List.all_eq_true]
  intro r hr
  obtain ⟨i, hi, rfl⟩ := List.getElem_of_mem hr
  unfold rowB
  rw [List.all_eq_true]
  intro x hx
  have := h3 i hi x (by rw [getD_in hi]; exact hx)
  simp
  omega
 refine ⟨hI, fun i p hp => ?_, h2⟩
 by_cases hi : i < P.length
 · have hz : (p : Int) ∈ zs (par (toQ P) i) := (zs_mem _ _).2 hp
   rw [par_toQ hI] at hz
   have := (h3 i hi _ hz).2
   omega
 · unfold par toQ at hp
   rw [List.getD_eq_getElem?_getD, List.getElem?_eq_none (by simpa using hi)] at hp
   cases hp
inductive Lead (Q : List (List Nat)) (S : List Nat) : Nat → Prop
 | one {k i : Nat} : k ∈ S → i ∈ par Q k → Lead Q S i
 | more {k i : Nat} : Lead Q S k → i ∈ par Q k → Lead Q S i
theorem ch_iff {Q : List (List Nat)} {S : List Nat} {i : Nat} : Lead Q S i ↔ ∃ k, (k ∈ S ∨ Lead Q S k) ∧ i ∈ par Q k :=
 ⟨fun h => by cases h with | one h1 h2 => exact ⟨_, .inl h1, h2⟩ | more h1 h2 => exact ⟨_, .inr h1, h2⟩, fun ⟨k, h1, h2⟩ => h1.elim (fun h => .one h h2) fun h => .more h h2⟩
theorem ch_lt {Q : List (List Nat)} {S : List Nat} {n : Nat} (hQ : BackQ Q) (hS : ∀ x ∈ S, x < n) {i : Nat} (h : Lead Q S i) : i < n := by
 induction h with
 | one h1 h2 => exact Nat.lt_trans (hQ _ _ h2) (hS _ h1)
 | more _ h2 ih => exact Nat.lt_trans (hQ _ _ h2) ih
def Gm (Q : List (List Nat)) (S : List Nat) (m i : Nat) : Prop := ∃ k, m ≤ k ∧ (k ∈ S ∨ Lead Q S k) ∧ i ∈ par Q k
theorem gm_top {Q : List (List Nat)} {S : List Nat} {n : Nat} (hQ : BackQ Q) (hS : ∀ x ∈ S, x < n) (i : Nat) : ¬ Gm Q S n i := fun ⟨k, h1, h2, _⟩ => by
 have : k < n := h2.elim (hS k) (ch_lt hQ hS)
 omega
theorem gm_self {Q : List (List Nat)} {S : List Nat} (hQ : BackQ Q) (m : Nat) : Gm Q S (m + 1) m ↔ Lead Q S m :=
 ⟨fun ⟨k, _, h2, h3⟩ => ch_iff.2 ⟨k, h2, h3⟩, fun h => by
  obtain ⟨k, h2, h3⟩ := ch_iff.1 h
  exact ⟨k, hQ _ _ h3, h2, h3⟩⟩
theorem gm_step {Q : List (List Nat)} {S : List Nat} (m i : Nat) : Gm Q S m i ↔ Gm Q S (m + 1) i ∨ ((m ∈ S ∨ Lead Q S m) ∧ i ∈ par Q m) :=
 ⟨fun ⟨k, h1, h2, h3⟩ => by
  rcases Nat.lt_or_ge m k with h | h
  · exact .inl ⟨k, h, h2, h3⟩
  · obtain rfl : k = m := by omega
    exact .inr ⟨h2, h3⟩, fun h => h.elim (fun ⟨k, h1, h2, h3⟩ => ⟨k, by omega, h2, h3⟩) fun ⟨h2, h3⟩ => ⟨m, Nat.le_refl _, h2, h3⟩⟩
open Classical in
noncomputable def chT (Q : List (List Nat)) (S : List Nat) : List Nat := (List.range Q.length).filter fun i => decide (Lead Q S i)
theorem par_lt_len {Q : List (List Nat)} {i x : Nat} (h : x ∈ par Q i) : i < Q.length := by
 refine Classical.byContradiction fun hn => ?_
 unfold par at h
 rw [List.getD_eq_getElem?_getD, List.getElem?_eq_none (by omega)] at h
 cases h
theorem ch_len {Q : List (List Nat)} {S : List Nat} {i : Nat} (hQ : BackQ Q) (h : Lead Q S i) : i < Q.length := by
 obtain ⟨k, _, h3⟩ := ch_iff.1 h
 exact Nat.lt_trans (hQ _ _ h3) (par_lt_len h3)
theorem cht_mem {Q : List (List Nat)} {S : List Nat} {i : Nat} (hQ : BackQ Q) : i ∈ chT Q S ↔ Lead Q S i := by
 unfold chT
 simp only [List.mem_filter, List.mem_range, decide_eq_true_eq]
 exact ⟨fun h => h.2, fun h => ⟨ch_len hQ h, h⟩⟩
theorem cht_rises (Q : List (List Nat)) (S : List Nat) : (chT Q S).Pairwise (· < ·) := List.Pairwise.filter _ List.pairwise_lt_range
end Go.Proofs.YtimhpglfolbomabGreat.Od
namespace Go.Proofs.YtimhpglfolbomabGreat.Od
open Go.RowKit Go.Maps
theorem belowP {a b c : World} (h : Below a.heap.size a b) (g : Below b.heap.size b c) : Below a.heap.size a c := h.trans ⟨g.os, g.tape, g.output, g.size, fun k hk => g.block k (by have := h.size; omega)⟩
theorem own_len {w : World} {B e s m n : Nat} {v : Value} {xs : List Value} (h : w.ownsRow B e s v n xs) (he : m = n) : w.ownsRow B e s v m xs := by rw [he]; exact h
theorem own_snoc {w : World} {B e s : Nat} {v : Value} {L : List Int} {x : Int} (h : w.ownsRow B e s v (L.length + 1) (L.map (Value.int .i64) ++ [Value.int .i64 x])) : w.ownsRow B e s v (L ++ [x]).length ((L ++ [x]).map (Value.int .i64)) := by
 rw [List.length_append, List.map_append]
 exact h
def RdEv (O : Nat → Prop) (w : World) (p : Option Addr) (c : Nat) (l : List Ev) : Prop :=
 l.length ≤ c ∧ ∀ j, j < l.length → ∃ b o q, p = some ⟨b, o, none⟩ ∧ O b ∧ w.rangeAt b (o + j * 16) (cellsE (l.getD j Ev.zero) q) ∧ IsE O w (l.getD j Ev.zero) q
theorem RdEv.nil (O : Nat → Prop) (w : World) (p : Option Addr) (c : Nat) : RdEv O w p c [] := ⟨Nat.zero_le _, fun j hj => absurd hj (by simp)⟩
theorem RdEv.carry {O O' : Nat → Prop} {w w' : World} {p : Option Addr} {c : Nat} {l : List Ev} (h : RdEv O w p c l) (hO : ∀ k, O k → O' k ∧ w'.heap[k]? = w.heap[k]?) : RdEv O' w' p c l :=
 ⟨h.1, fun j hj => by
  obtain ⟨b, o, q, hp, hb, hc, he⟩ := h.2 j hj
  exact ⟨b, o, q, hp, (hO b hb).1, fun m v hv => (World.cell?_of_block (a := ⟨b, o + j * 16 + m, none⟩) (hO b hb).2).trans (hc m v hv), he.carry hO⟩⟩
structure Pq where
 n : Option Addr
 cn : Nat
 e : Option Addr
 ce : Nat
 v : Option Addr
 cv : Nat
 a : Option Addr
 ca : Nat
 d : Option Addr
 cd : Nat
def cellsPa (p : Pa) (q : Pq) : List Value := [.slice q.n p.names.length q.cn, .slice q.e p.evs.length q.ce, .slice q.v p.prev.length q.cv, .slice q.a p.auth.length q.ca, .slice q.d p.den.length q.cd]
def valPa (p : Pa) (q : Pq) : Value := .agg (cellsPa p q).toArray
structure IsPa (O : Nat → Prop) (w : World) (p : Pa) (q : Pq) : Prop where
 names : RdS O w q.n q.cn p.names
 evs : RdEv O w q.e q.ce p.evs
 prev : RdR O w q.v q.cv p.prev
 auth : RdR O w q.a q.ca p.auth
 den : RdB O w q.d q.cd p.den
theorem IsPa.carry {O O' : Nat → Prop} {w w' : World} {p : Pa} {q : Pq} (h : IsPa O w p q) (hO : ∀ k, O k → O' k ∧ w'.heap[k]? = w.heap[k]?) : IsPa O' w' p q :=
 ⟨h.names.carry (fun k hk => (hO k hk).2) fun k hk => (hO k hk).1, h.evs.carry hO, h.prev.carry (fun k hk => (hO k hk).2) fun k hk => (hO k hk).1, h.auth.carry (fun k hk => (hO k hk).2) fun k hk => (hO k hk).1, h.den.carry (fun k hk => (hO k hk).2) fun k hk => (hO k hk).1⟩
theorem IsPa.below {w w' : World} {p : Pa} {q : Pq} (h : IsPa (· < w.heap.size) w p q) (hb : Below w.heap.size w w') : IsPa (· < w'.heap.size) w' p q := h.carry fun k hk => ⟨Nat.lt_of_lt_of_le hk hb.size, hb.block k hk⟩
structure SzPa (p : Pa) : Prop where
 names : p.names.length ≤ 30
 evs : p.evs.length ≤ 30
 prev : p.prev.length ≤ 30
 auth : p.auth.length ≤ 30
 den : p.den.length ≤ 30
 prevs : ∀ r ∈ p.prev, r.length ≤ 30
 auths : ∀ r ∈ p.auth, r.length ≤ 30
structure IsVP (w : World) (b : Nat) (p : Pa) (q : Pq) : Prop where
 blk : w.heap[b]? = some (.cells (cellsPa p q).toArray 27 (0, 0))
 pa : IsPa (· < w.heap.size) w p q
theorem IsVP.below {w w' : World} {b : Nat} {p : Pa} {q : Pq} (h : IsVP w b p q) (hb : Below w.heap.size w w') : IsVP w' b p q := ⟨(hb.block b (obj_lt h.blk)).trans h.blk, h.pa.below hb⟩
theorem isVP_new {w : World} {p : Pa} {q : Pq} (h : IsPa (· < w.heap.size) w p q) : IsVP (w.alloc (.cells (cellsPa p q).toArray 27)) w.heap.size p q :=
 ⟨heap_alloc_new _ _, h.below ((Below.refl _ _).alloc (Nat.le_refl _) _)⟩
theorem rangeK_of {w : World} {b t : Nat} {fr : Nat × Nat} {cs : List Value} (h : w.heap[b]? = some (.cells cs.toArray t fr)) : w.rangeAt b 0 cs := fun j v hv => by
 rw [Nat.zero_add]
 exact cell_row h j v (by simpa using hv)
theorem wpList_loadK {ops : Array Oper} {rest : List Oper} {o : Oper} {a : Act} {w : World} {Q : Exit → Act → World → Prop} (hg : o.guard = none) (ty : TypeId) (m : Operand) (hop : o.op = Op.load ty m) (b ofs : Nat) (hm : a.eval m = .pointer (some ⟨b, ofs, none⟩)) (cs : List Value)
    (hl : (Instr.loadAt ty (.pointer (some ⟨b, ofs, none⟩))).run Tryz.prog w = .ok (.agg cs.toArray) w)
    (hK : wpList Tryz.prog ops Q rest (a.put o.dst (.agg cs.toArray)) w) : wpList Tryz.prog ops Q (o :: rest) a w := by
 refine wpList_plain hg fun K' hK' => ?_
 unfold Oper.wp
 simp [execOp, hop, hm, hl, Result.andThen]
 exact hK' _ _ hK
theorem infoPa : (Tryz.prog.info? 27).map (·.size) = some 5 := by kernel_rfl
section
variable {w : World} {b : Nat} {p : Pa} {q : Pq}
theorem IsVP.c0 (h : IsVP w b p q) : w.cell? ⟨b, 0, none⟩ = some (.slice q.n p.names.length q.cn) := cell_row h.blk 0 _ rfl
theorem IsVP.c1 (h : IsVP w b p q) : w.cell? ⟨b, 1, none⟩ = some (.slice q.e p.evs.length q.ce) := cell_row h.blk 1 _ rfl
theorem IsVP.c2 (h : IsVP w b p q) : w.cell? ⟨b, 2, none⟩ = some (.slice q.v p.prev.length q.cv) := cell_row h.blk 2 _ rfl
theorem IsVP.c3 (h : IsVP w b p q) : w.cell? ⟨b, 3, none⟩ = some (.slice q.a p.auth.length q.ca) := cell_row h.blk 3 _ rfl
theorem IsVP.c4 (h : IsVP w b p q) : w.cell? ⟨b, 4, none⟩ = some (.slice q.d p.den.length q.cd) := cell_row h.blk 4 _ rfl
theorem IsVP.load (h : IsVP w b p q) : (Instr.loadAt 27 (.pointer (some ⟨b, 0, none⟩))).run Tryz.prog w = .ok (.agg (cellsPa p q).toArray) w :=
 run_loadAt_mid w b 0 27 (cellsPa p q) _ (rangeK_of h.blk) Tryz.underlying27 rfl infoPa
end
def fr (P : List (List Int)) (x : Int) : Nat := P.countP fun r => decide (x ∈ r)
theorem fr_pos {P : List (List Int)} {x : Int} : 0 < fr P x ↔ ∃ r ∈ P, x ∈ r := by
 unfold fr
 rw [List.countP_pos_iff]
 simp
theorem fr_le (P : List (List Int)) (x : Int) : fr P x ≤ P.length := List.countP_le_length
def wf64 (x : Int) : Prop := -9223372036854775808 ≤ x ∧ x ≤ 9223372036854775807
theorem wf_lit {x : Int} (h : wf64 x) : (Lit.int .i64 x).wf = true := by
 have h1 : IntKind.i64.min = -9223372036854775808 := rfl
 have h2 : IntKind.i64.max = 9223372036854775807 := rfl
 unfold wf64 at h
 simp only [Lit.wf, Bool.and_eq_true, decide_eq_true_eq]
 omega
def fj (P : List (List Int)) (k j : Nat) (x : Int) : Nat := fr (P.take k) x + if x ∈ (P.getD k []).take j then 1 else 0
theorem fj_zero (P : List (List Int)) (k : Nat) (x : Int) : fj P k 0 x = fr (P.take k) x := by simp [fj]
theorem fj_all (P : List (List Int)) (k : Nat) (x : Int) (hk : k < P.length) : fj P k (P.getD k []).length x = fr (P.take (k + 1)) x := by
 unfold fj fr
 rw [take_snoc P k [] hk, List.countP_append, List.take_length]
 congr 1
 rw [List.countP_cons]
 simp
theorem mem_next (r : List Int) (j : Nat) (x : Int) (hj : j < r.length) : x ∈ r.take (j + 1) ↔ x ∈ r.take j ∨ x = r.getD j 0 := by
 rw [take_snoc r j 0 hj, List.mem_append, List.mem_singleton]
theorem fj_old {P : List (List Int)} {k j : Nat} (hj : j < (P.getD k []).length) (h : (P.getD k []).getD j 0 ∈ (P.getD k []).take j) (x : Int) : fj P k (j + 1) x = fj P k j x := by
 unfold fj
 have : x ∈ (P.getD k []).take (j + 1) ↔ x ∈ (P.getD k []).take j := by
  rw [mem_next _ j x hj]
  exact ⟨fun h' => h'.elim id fun e => e ▸ h, .inl⟩
 simp only [this]
theorem fj_other {P : List (List Int)} {k j : Nat} (hj : j < (P.getD k []).length) {x : Int} (hx : x ≠ (P.getD k []).getD j 0) : fj P k (j + 1) x = fj P k j x := by
 unfold fj
 have : x ∈ (P.getD k []).take (j + 1) ↔ x ∈ (P.getD k []).take j := by
  rw [mem_next _ j x hj]
  exact ⟨fun h' => h'.elim id fun e => absurd e hx, .inl⟩
 simp only [this]
theorem fj_new {P : List (List Int)} {k j : Nat} (hj : j < (P.getD k []).length) (h : (P.getD k []).getD j 0 ∉ (P.getD k []).take j) : fj P k (j + 1) ((P.getD k []).getD j 0) = fj P k j ((P.getD k []).getD j 0) + 1 := by
 unfold fj
 rw [if_pos ((mem_next _ j _ hj).2 (.inr rfl)), if_neg h]
theorem fj_le (P : List (List Int)) (k j : Nat) (x : Int) : fj P k j x ≤ k + 1 := by
 unfold fj
 have h1 := fr_le (P.take k) x
 have h2 : (P.take k).length ≤ k := by rw [List.length_take]; omega
 split <;> omega
def klI (x : Int) : Lit := .int .i64 x
theorem klI_inj {x y : Int} (h : klI x = klI y) : x = y := by
 unfold klI at h
 simpa using h
theorem klI_key (x : Int) : WideAt.IsKeyLit (klI x) := trivial
def cntD (a b : Int) : DataW Unit := .agg [.lit (.int .i64 a), .lit (.int .i64 b)]
theorem cntD_inj {a b c d : Int} (h : cntD a b = cntD c d) : a = c ∧ b = d := by
 unfold cntD at h
 simpa using h
def cntElem : Value → Option (DataW Unit × List MemPlace)
 | .agg cs => match cs.toList with
  | [.int .i64 a, .int .i64 b] => some (cntD a b, [])
  | _ => none
 | _ => none
def cntV (c : Int × Int) : Value := .agg #[.int .i64 c.1, .int .i64 c.2]
theorem cntElem_mk (c : Int × Int) : cntElem (cntV c) = some (cntD c.1 c.2, []) := rfl
theorem cntElem_inv {v : Value} {z : DataW Unit × List MemPlace} (h : cntElem v = some z) : ∃ c, v = cntV c ∧ z = (cntD c.1 c.2, []) := by
 unfold cntElem at h
 split at h
 · rename_i cs
   split at h
   · rename_i a b e
     cases h
     refine ⟨(a, b), ?_, rfl⟩
     unfold cntV
     congr 1
     exact Array.toList_inj.1 e
   · cases h
 · cases h
theorem lawI : Keyed Tryz.prog 3 := int_keyed Tryz.underlying3
theorem keyI {x : Int} (h : wf64 x) : keyOf Tryz.prog 3 (.int .i64 x) = some (klI x) := keyOf_int_mk Tryz.underlying3 (wf_lit h)
theorem zeroC (w : World) : (zeroValue 123).run Tryz.prog w = .ok (cntV (0, 0)) w := by kernel_rfl
structure Ct (P : List (List Int)) (k j : Nat) (D : DataW Unit) : Prop where
 tidy : Tidy D
 has : ∀ x, wf64 x → Maps.has D (klI x) = decide (0 < fj P k j x)
 cnt : ∀ x, wf64 x → 0 < fj P k j x → ∃ l : Nat, (∀ z, D.atKey (klI x) z = cntD (fj P k j x) l) ∧ (l = k ↔ x ∈ (P.getD k []).take j) ∧ l ≤ k
theorem Ct.start (P : List (List Int)) : Ct P 0 0 (.map []) :=
 ⟨tidy_empty, fun x _ => by rw [fj_zero]; simp [has_eq, fr], fun x _ h => by rw [fj_zero] at h; simp [fr] at h⟩
theorem Ct.row {P : List (List Int)} {k : Nat} {D : DataW Unit} (h : Ct P k (P.getD k []).length D) (hk : k < P.length) : Ct P (k + 1) 0 D := by
 refine ⟨h.tidy, fun x hx => by rw [h.has x hx, fj_all P k x hk, fj_zero], fun x hx hp => ?_⟩
 rw [fj_zero, ← fj_all P k x hk] at hp ⊢
 obtain ⟨l, h1, h2, h3⟩ := h.cnt x hx hp
 exact ⟨l, h1, by simp; omega, by omega⟩
theorem Ct.old {P : List (List Int)} {k j : Nat} {D : DataW Unit} (h : Ct P k j D) (hj : j < (P.getD k []).length) (hm : (P.getD k []).getD j 0 ∈ (P.getD k []).take j) : Ct P k (j + 1) D := by
 refine ⟨h.tidy, fun x hx => by rw [h.has x hx, fj_old hj hm], fun x hx hp => ?_⟩
 rw [fj_old hj hm] at hp ⊢
 obtain ⟨l, h1, h2, h3⟩ := h.cnt x hx hp
 refine ⟨l, h1, ?_, h3⟩
 rw [h2, mem_next _ j x hj]
 exact ⟨.inl, fun h' => h'.elim id fun e => e ▸ hm⟩
theorem Ct.new {P : List (List Int)} {k j : Nat} {D : DataW Unit} (h : Ct P k j D) (hj : j < (P.getD k []).length) (hm : (P.getD k []).getD j 0 ∉ (P.getD k []).take j) : Ct P k (j + 1) (D.put (klI ((P.getD k []).getD j 0)) (cntD ((fj P k j ((P.getD k []).getD j 0) : Int) + 1) k)) := by
 have hn := fj_new hj hm
 have hmx := mem_next (P.getD k []) j
 refine ⟨h.tidy.put (klI_key _) _, fun x hx => ?_, fun x hx hp => ?_⟩
 · by_cases e : x = (P.getD k []).getD j 0
   · rw [e, has_put_same h.tidy.isMap (klI_key _), hn]
     simp
   · rw [has_put_other (fun h' => e (klI_inj h')), h.has x hx, fj_other hj e]
 · by_cases e : x = (P.getD k []).getD j 0
   · refine ⟨k, fun z => ?_, ?_, Nat.le_refl _⟩
     · rw [e, atKey_put_same h.tidy.isMap (klI_key _), hn]
       rfl
     · rw [hmx x hj]
       exact ⟨fun _ => .inr e, fun _ => rfl⟩
   · rw [fj_other hj e] at hp ⊢
     obtain ⟨l, h1, h2, h3⟩ := h.cnt x hx hp
     refine ⟨l, fun z => by rw [atKey_put_other (fun h' => e (klI_inj h')), h1], ?_, h3⟩
     rw [h2, hmx x hj]
     exact ⟨.inl, fun h' => h'.elim id fun e' => absurd e' e⟩
theorem Ct.look {P : List (List Int)} {k j : Nat} {D : DataW Unit} (h : Ct P k j D) {x : Int} (hx : wf64 x) {c : Int × Int} (hc : D.atKey (klI x) (cntD 0 0) = cntD c.1 c.2) :
    c.1 = (fj P k j x : Int) ∧ ((c.1 = 0 ∨ c.2 ≠ (k : Int)) ↔ x ∉ (P.getD k []).take j) := by
 rcases Nat.eq_zero_or_pos (fj P k j x) with h0 | h0
 · have hh := h.has x hx
   rw [h0] at hh
   rw [atKey_of_not_has hh] at hc
   obtain ⟨e1, e2⟩ := cntD_inj hc
   rw [h0, ← e1]
   refine ⟨rfl, fun _ hm => ?_, fun _ => .inl rfl⟩
   unfold fj at h0
   rw [if_pos hm] at h0
   omega
 · obtain ⟨l, h1, h2, h3⟩ := h.cnt x hx h0
   rw [h1] at hc
   obtain ⟨e1, e2⟩ := cntD_inj hc
   rw [← e1, ← e2, ← h2]
   refine ⟨rfl, ?_⟩
   omega
theorem wpList_lookup_cnt (w : World) {ops : Array Oper} {rest : List Oper} {o : Oper} {a : Act} {Q : Exit → Act → World → Prop}
    (hg : o.guard = none) (m x : Operand) (hop : o.op = Op.lookup 120 m x false) (b n : Nat) (D : DataW Unit)
    (hm : a.eval m = .map (some b)) (hown : w.ownsMap Tryz.prog 3 cntElem b n D) (z : Int) (hz : wf64 z) (hx : a.eval x = .int .i64 z)
    (hK : ∀ c : Int × Int, D.atKey (klI z) (cntD 0 0) = cntD c.1 c.2 → wpList Tryz.prog ops Q rest (a.put o.dst (.agg #[.int .i64 c.1, .int .i64 c.2])) w) :
    wpList Tryz.prog ops Q (o :: rest) a w := by
 refine wpList_plain hg fun K' hK' => ?_
 obtain ⟨v, ps, hrun, hv⟩ := hown.lookup lawI Tryz.underlying120 (zeroC w) (cntElem_mk (0, 0)) (keyI hz)
 obtain ⟨c, rfl, hc⟩ := cntElem_inv hv
 simp only [Prod.mk.injEq] at hc
 unfold cntV at hrun
 unfold Oper.wp
 simp [execOp, hop, hm, hx, hrun, Result.andThen]
 exact hK' _ _ (hK c hc.1)
end Go.Proofs.YtimhpglfolbomabGreat.Od
