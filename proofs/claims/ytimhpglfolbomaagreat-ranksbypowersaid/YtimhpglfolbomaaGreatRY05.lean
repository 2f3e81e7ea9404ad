/-
  A region that draws its order: what only reads, in every world of a class that the region does not leave, may be taken first.
  The letters of bytes and the bytes of letters, as plain functions on lists of integers: what base.Encode and base.Decode tell.
  The small functions of base, by their contracts.
  Which letters a name may have, asked by a closure, and whether a text is of such letters: by contracts.
  Servers' names, local names and types: the program's own, and the document's, by contracts.
  The parts of a name with a sign ahead, as a plain function, and where its colon stands.
  strings.CutPrefix and strings.Cut at one sign, by contracts.
  Names taken apart: the program's own apart, User, Room and Home, by contracts.
  Servers' names, local names and types, as the document answers: by contracts.
  Names taken apart as the document answers, by contracts; and where a name is at home.
  spread and gather of base, by their contracts.
  spare and fault of base, by their contracts.
  A slice of bytes as it is read, and what a cut of it is.
  A copy out of a text into a row that the call itself made.
  base.Decode, by its contract: the bytes of letters, or the first error and its place.
  Letters and bytes are one thing: enc and dec are each other's inverse, and enc goes along with rows of threes.
  The statements of layer 2 that need no answer of the document's, walked: each returns true, and turns nothing that was there.
  The document's answer, bit by bit, as plain functions on lists, and that it tells the same letters and bytes.
  The document's answer of layer 2, walked: bits, letter, Encode.
  The document's answer of layer 2, walked: number, Decode.
  Events' names: the program's own answer and the document's, by contracts.
  Events: what they have, how they lie in memory, and what is told of them.
  Pasts, what their places lean on, and in which order they are heard: as plain functions.
-/
import Derived.Test.YtimhpglfolbomaaGreatRY04
import Derived.Orders
import Derived.Tactics2
import Derived.Laws.BitsLemmas
import Derived.Lib.Walk
import Derived.Laws.CopyOwn
import Derived.Lib.ValidU
set_option maxRecDepth 100000
set_option maxHeartbeats 16000000
namespace Go.Proofs.YtimhpglfolbomaaGreat
open Go
section
variable {P : Program} {ops : Array Oper} {Q : Exit → Act → World → Prop} {md : Region.Mode} {C : World → Prop}
theorem upon_late {x y : Oper} {v : Value} {a : Act} {K : Act → World → Prop} {r : Result Next} (hxy : ∀ d, x.dst = some d → y.dst ≠ some d)
    (hQ : ∀ c a w, Q (.panic c) (a.put x.dst v) w → Q (.panic c) a w) (R : Act → Prop) (hR : ∀ u, R (a.put y.dst u)) (hD : ∀ d u, R ({ a with defers := d :: a.defers }.put y.dst u))
    (h : y.upon P (a.put x.dst v) K Q r) : y.upon P a (fun a' w' => R a' ∧ K (a'.put x.dst v) w') Q r := by
 match r with
 | .ok (.value u) w' => exact ⟨hR u, (Act.put_comm a v u hxy) ▸ h⟩
 | .ok .skip w' => exact ⟨hR _, (Act.put_comm a v undef hxy) ▸ h⟩
 | .ok (.defer d) w' =>
  refine ⟨hD d _, ?_⟩
  rw [← Act.put_comm _ v undef hxy, ← Act.put_defers]
  exact h
 | .ok (.enter f args) w' =>
  refine Calls.mono h fun e w'' he => ?_
  match e with
  | .returned u => exact ⟨hR u, (Act.put_comm a v u hxy) ▸ he⟩
  | .panicked c => exact hQ _ _ _ he
  | .outgrown => exact he
 | .ok (.row row args) w' => exact Rows.mono h fun u w'' he => ⟨hR u, (Act.put_comm a v u hxy) ▸ he⟩
 | .halt (.panic u) w' => exact hQ _ _ _ h
 | .halt .blocked _ => exact h
 | .halt .waiting _ => exact h
 | .halt (.stuck _) _ => exact h
 | .halt (.unsupported _) _ => exact h
theorem wpOp_late {j : Nat} {x y : Oper} {v : Value} (hj : ops[j]? = some y) (hap : x.apart ops y = true) (hx : ∀ cs b, x.op ≠ .select cs b) (hy : ∀ cs b, y.op ≠ .select cs b)
    (hQ : ∀ c a w, Q (.panic c) (a.put x.dst v) w → Q (.panic c) a w) {K : Act → World → Prop} {a : Act} {w : World} (h : wpOp P ops Q j K (a.put x.dst v) w) :
    wpOp P ops Q j (fun a' w' => (execOp a'.eval x = execOp a.eval x ∧ Region.wanted x (yielded ops a'.tmps) = Region.wanted x (yielded ops a.tmps)) ∧ K (a'.put x.dst v) w') a w := by
 obtain ⟨h1, h2, h3⟩ := Oper.apart_spec hap
 have hR : ∀ u, execOp (a.put y.dst u).eval x = execOp a.eval x ∧ Region.wanted x (yielded ops (a.put y.dst u).tmps) = Region.wanted x (yielded ops a.tmps) :=
  fun u => ⟨execOp_put x hx a y.dst u h3, wanted_put x a y.dst u h3⟩
 have hD : ∀ (d : Deferred) u, execOp ({ a with defers := d :: a.defers }.put y.dst u : Act).eval x = execOp a.eval x ∧ Region.wanted x (yielded ops ({ a with defers := d :: a.defers }.put y.dst u : Act).tmps) = Region.wanted x (yielded ops a.tmps) :=
  fun d u => ⟨execOp_put x hx { a with defers := d :: a.defers } y.dst u h3, wanted_put x { a with defers := d :: a.defers } y.dst u h3⟩
 have e1 := wanted_put y a x.dst v h1
 have e2 := execOp_put y hy a x.dst v h1
 unfold wpOp at h ⊢
 simp only [hj] at h ⊢
 rw [e1] at h
 by_cases hw : Region.wanted y (yielded ops a.tmps) = true
 · rw [if_pos hw] at h ⊢
   rcases h with h | ⟨ha, hl⟩
   · left
     unfold Oper.wp at h ⊢
     rw [e2] at h
     exact upon_late h2 hQ (fun a' => execOp a'.eval x = execOp a.eval x ∧ Region.wanted x (yielded ops a'.tmps) = Region.wanted x (yielded ops a.tmps)) hR hD h
   · right
     unfold Oper.asks at ha ⊢
     rw [e2] at ha
     exact ⟨ha, hl⟩
 · rw [if_neg hw] at h ⊢
   exact ⟨hR _, (Act.put_comm a v undef h2) ▸ h⟩
def wpIn (P : Program) (md : Region.Mode) (ops : Array Oper) (Q : Exit → Act → World → Prop) (C : World → Prop) : Nat → Array Bool → Act → World → Prop
 | 0, listed, a, w => C w ∧ Region.ready md ops listed = [] ∧ Q .normal a w
 | n + 1, listed, a, w => C w ∧ (Region.ready md ops listed = [] → Q .normal a w) ∧ ∀ i ∈ Region.ready md ops listed, wpOp P ops Q i (wpIn P md ops Q C n (listed.setIfInBounds i true)) a w
theorem wpIn.any : ∀ {n : Nat} {listed : Array Bool} {a : Act} {w : World}, wpIn P md ops Q C n listed a w → wpAny P md ops Q n listed a w
 | 0, _, _, _, h => h.2
 | _ + 1, _, _, _, h => ⟨h.2.1, fun i hi => wpOp_mono (fun _ _ h' => wpIn.any h') (h.2.2 i hi)⟩
def Quiet (P : Program) (ops : Array Oper) (C : World → Prop) (o : Oper) (v : Value) (a : Act) : Prop :=
 (Region.wanted o (yielded ops a.tmps) = true ∧ ∀ w, C w → (execOp a.eval o).run P w = .ok (.value v) w) ∨ (Region.wanted o (yielded ops a.tmps) = false ∧ v = undef)
theorem Quiet.op {i : Nat} {o : Oper} {v : Value} {a : Act} (hi : ops[i]? = some o) (hy : Quiet P ops C o v a) {K : Act → World → Prop} {w : World} (hC : C w) (h : K (a.put o.dst v) w) : wpOp P ops Q i K a w := by
 unfold wpOp
 rw [hi]
 simp only
 rcases hy with ⟨hw, hv⟩ | ⟨hw, rfl⟩
 · rw [if_pos hw]
   left
   unfold Oper.wp
   rw [hv w hC]
   exact h
 · rw [if_neg (by rw [hw]; exact Bool.false_ne_true)]
   exact h
theorem wpIn_first {i : Nat} {o : Oper} {v : Value} (hi : ops[i]? = some o) (hs : Region.noSelect ops = true) (hQ : ∀ c a w, Q (.panic c) (a.put o.dst v) w → Q (.panic c) a w) :
    ∀ (n : Nat) (listed : Array Bool) (a : Act) (w : World),
     (∀ j y, ops[j]? = some y → j ≠ i → listed.getD j true = false → (∀ e ∈ y.after, Region.binds md e = true → e.on ≠ i) → o.apart ops y = true) →
     i ∈ Region.ready md ops listed → Quiet P ops C o v a → wpIn P md ops Q C n (listed.setIfInBounds i true) (a.put o.dst v) w → wpIn P md ops Q C (n + 1) listed a w := by
 intro n
 induction n with
 | zero =>
  intro listed a w _ hr hy H
  refine ⟨H.1, fun h => (by rw [h] at hr; cases hr), fun j hj => ?_⟩
  by_cases hji : j = i
  · subst hji; exact hy.op hi H.1 H
  · have h' := ready_mono hj hji
    rw [H.2.1] at h'
    cases h'
 | succ n ih =>
  intro listed a w hfree hr hy H
  refine ⟨H.1, fun h => (by rw [h] at hr; cases hr), fun j hj => ?_⟩
  by_cases hji : j = i
  · subst hji; exact hy.op hi H.1 H
  · obtain ⟨hjun, y, hoy, hall⟩ := mem_ready.1 hj
    have hnot : ∀ e ∈ y.after, Region.binds md e = true → e.on ≠ i := by
     intro e he hb heq
     have g1 := hall e he hb
     have g0 := (mem_ready.1 hr).1
     rw [heq] at g1
     by_cases hin : i < listed.size
     · simp [hin] at g0 g1
       rw [g0] at g1
       cases g1
     · simp [hin] at g1
    have h2 := wpOp_late hoy (hfree j y hoy hji hjun hnot) (fun cs b => Region.noSelect_spec hs i o cs b hi) (fun cs b => Region.noSelect_spec hs j y cs b hoy) hQ (H.2.2 j (ready_mono hj hji))
    refine wpOp_mono (fun a' w' h3 => ih (listed.setIfInBounds j true) a' w' ?_ (ready_mono hr (Ne.symm hji)) ?_ ?_) h2
    · intro k z hk hki hun hno
      refine hfree k z hk hki ?_ hno
      by_cases hjk : j = k
      · subst hjk; exact hjun
      · rw [getD_set_ne true hjk] at hun; exact hun
    · unfold Quiet at hy ⊢
      rw [h3.1.1, h3.1.2]
      exact hy
    · rw [Array.setIfInBounds_comm _ _ hji]
      exact h3.2
theorem wpIn_take {i : Nat} {o : Oper} {v : Value} {d : Option Tmp} {n : Nat} {listed : Array Bool} {a a' : Act} {w : World} (hi : ops[i]? = some o) (hd : o.dst = d)
    (hs : Region.noSelect ops = true) (hf : Region.free md ops listed i = true) (hr : (Region.ready md ops listed).contains i = true)
    (hQ : ∀ c a w, Q (.panic c) (a.put d v) w → Q (.panic c) a w) (hy : Quiet P ops C o v a) (ha : a.put d v = a')
    (h : wpIn P md ops Q C n (listed.setIfInBounds i true) a' w) : wpIn P md ops Q C (n + 1) listed a w := by
 subst hd ha
 exact wpIn_first hi hs hQ n listed a w (Region.free_spec hi hf) (by simpa using hr) hy h
theorem wpIn_tk {i : Nat} {o : Oper} {v : Value} {d : Option Tmp} {n : Nat} {listed : Array Bool} {a a' : Act} {w : World} (hi : ops[i]? = some o)
    (h : wpIn P md ops Q C n (listed.setIfInBounds i true) a' w) (hd : o.dst = d := by rfl) (hw : Region.wanted o (yielded ops a.tmps) = true := by rfl) (hy : ∀ w, C w → (execOp a.eval o).run P w = .ok (.value v) w := by (intro wq hq; go_simp; first | done | with_reducible rfl)) (ha : a.put d v = a' := by (go_frame; rfl))
    (hs : Region.noSelect ops = true := by kernel_rfl) (hf : Region.free md ops listed i = true := by kernel_rfl) (hr : (Region.ready md ops listed).contains i = true := by kernel_rfl)
    (hQ : ∀ c a w, Q (.panic c) (a.put d v) w → Q (.panic c) a w := by exact fun _ _ _ h => h) : wpIn P md ops Q C (n + 1) listed a w :=
 wpIn_take hi hd hs hf hr hQ (Or.inl ⟨hw, hy⟩) ha h
theorem wpIn_tp {i : Nat} {o : Oper} {v : Value} {d : Option Tmp} {n : Nat} {listed : Array Bool} {a a' : Act} {w : World} (hi : ops[i]? = some o)
    (hy : ∀ w, C w → (execOp a.eval o).run P w = .ok (.value v) w) (h : wpIn P md ops Q C n (listed.setIfInBounds i true) a' w)
    (ha : a.put d v = a' := by (go_frame; rfl)) (hd : o.dst = d := by rfl) (hw : Region.wanted o (yielded ops a.tmps) = true := by rfl)
    (hs : Region.noSelect ops = true := by kernel_rfl) (hf : Region.free md ops listed i = true := by kernel_rfl) (hr : (Region.ready md ops listed).contains i = true := by kernel_rfl)
    (hQ : ∀ c a w, Q (.panic c) (a.put d v) w → Q (.panic c) a w := by exact fun _ _ _ h => h) : wpIn P md ops Q C (n + 1) listed a w :=
 wpIn_take hi hd hs hf hr hQ (Or.inl ⟨hw, hy⟩) ha h
theorem wpIn_only {i : Nat} {n : Nat} {listed : Array Bool} {a : Act} {w : World} (hC : C w) (hr : Region.ready md ops listed = [i])
    (h : wpOp P ops Q i (wpIn P md ops Q C n (listed.setIfInBounds i true)) a w) : wpIn P md ops Q C (n + 1) listed a w :=
 ⟨hC, fun h0 => (by rw [hr] at h0; cases h0), fun j hj => by rw [hr] at hj; rw [List.mem_singleton.1 hj]; exact h⟩
theorem wpIn_do {i : Nat} {o : Oper} {n : Nat} {listed : Array Bool} {a : Act} {w : World} (hC : C w) (hr : Region.ready md ops listed = [i]) (hi : ops[i]? = some o) (hw : Region.wanted o (yielded ops a.tmps) = true)
    (h : ∀ K' : Act → World → Prop, (∀ a w, wpIn P md ops Q C n (listed.setIfInBounds i true) a w → K' a w) → Oper.wp P o a w K' Q) : wpIn P md ops Q C (n + 1) listed a w := by
 refine wpIn_only hC hr ?_
 unfold wpOp
 rw [hi]
 simp only
 rw [if_pos hw]
 exact .inl (h _ fun _ _ h' => h')
theorem wpIn_done {listed : Array Bool} {a : Act} {w : World} (hC : C w) (hr : Region.ready md ops listed = []) (h : Q .normal a w) : ∀ n, wpIn P md ops Q C n listed a w
 | 0 => ⟨hC, hr, h⟩
 | _ + 1 => ⟨hC, fun _ => h, fun i hi => by rw [hr] at hi; cases hi⟩
theorem wp_region_in {id : Nat} {a : Act} {w : World} (hm : P.follows .mixedOrders = true) (C : World → Prop)
    (h : wpIn P .any ops Q C ops.size (Array.replicate ops.size false) a { w with drawn := w.drawn + 1 }) : (Code.region id ops true).wp P Q a w :=
 wp_region_any hm h.any
end
end Go.Proofs.YtimhpglfolbomaaGreat
namespace Go.Proofs.YtimhpglfolbomaaGreat.Id
def ints (s : ByteArray) : List Int := s.data.toList.map fun c => (c.toNat : Int)
theorem ints_length (s : ByteArray) : (ints s).length = s.size := by simp [ints]
theorem ints_getD (s : ByteArray) (k : Nat) (h : k < s.size) : (ints s).getD k 0 = (s[k].toNat : Int) := by
 have h' : k < s.data.toList.length := by simpa using h
 simp only [ints, List.getD_eq_getElem?_getD, List.getElem?_map, List.getElem?_eq_getElem h', Option.map_some, Option.getD_some]
 rfl
theorem ints_bd (s : ByteArray) : ∀ x ∈ ints s, 0 ≤ x ∧ x ≤ 255 := by
 intro x hx
 simp only [ints, List.mem_map] at hx
 obtain ⟨c, _, rfl⟩ := hx
 have := c.toNat_lt
 omega
theorem ints_extract (s : ByteArray) (k : Nat) : ints (s.extract k s.size) = (ints s).drop k := by
 simp only [ints, ByteArray.data_extract, Array.toList_extract, List.extract_eq_take_drop, List.map_take, List.map_drop]
 rw [List.take_of_length_le]
 have : (List.drop k (List.map (fun c : UInt8 => (c.toNat : Int)) s.data.toList)).length = s.size - k := by simp
 omega
end Go.Proofs.YtimhpglfolbomaaGreat.Id
namespace Go.Proofs.YtimhpglfolbomaaGreat.Id
open Go.RowKit
theorem ret_bool {a b : Bool} (h : a = b) : Ending.returned (.bool a) = .returned (.bool b) := by rw [h]
theorem liteIndexByte_any (s : ByteArray) (c : Int) (w : World) :
    Calls Tryz.prog 170 #[.string s, .int .u8 c] w fun e w' => e = .returned (.int .i64 (Lib.indexByte s.data.toList c.toNat.toUInt8)) ∧ w = w' := by
 go_enter Tryz.func170, Tryz.ntmps170
 go_wp2
 rw [run_callFunc_extern Tryz.func180 (by kernel_rfl) (by kernel_rfl) (by kernel_rfl) (e := Extern.BytealgIndexByte.indexByte) (by kernel_rfl), Lib.run_indexByteString]
 simp only [Result.andThen]
 rw [Oper.upon_value]
 go_wp2
 go_ret
 exact ⟨rfl, rfl⟩
theorem indexByte_any (s : ByteArray) (c : Int) (w : World) :
    Calls Tryz.prog 151 #[.string s, .int .u8 c] w fun e w' => e = .returned (.int .i64 (Lib.indexByte s.data.toList c.toNat.toUInt8)) ∧ w = w' := by
 go_enter Tryz.func151, Tryz.ntmps151
 go_wp2_with (go_at_call 170; refine (liteIndexByte_any _ _ _).mono ?_; rintro e w' ⟨rfl, rfl⟩)
 go_ret
 exact ⟨rfl, rfl⟩
def kind (o : List UInt8) (c : Int) : Bool := (decide (97 ≤ c) && decide (c ≤ 122)) || (decide (48 ≤ c) && decide (c ≤ 57)) || decide (0 ≤ Lib.indexByte o c.toNat.toUInt8)
theorem letter_clo (o : ByteArray) (c : Int) (B : Nat) (w : World) (hc : w.cell? ⟨B, 0, none⟩ = some (.string o)) (h0 : 0 ≤ c) (h1 : c ≤ 255) :
    Calls Tryz.prog 150 #[.int .u8 c, .pointer (some ⟨B, 0, none⟩)] w fun e w' => e = .returned (.bool (kind o.data.toList c)) ∧ w = w' := by
 go_enter Tryz.func150, Tryz.ntmps150
 go_wp2_with (go_at_call 151; refine (indexByte_any _ _ _).mono ?_; rintro e w' ⟨rfl, rfl⟩)
 all_goals
  go_ret
  refine ⟨ret_bool ?_, rfl⟩
  unfold kind
  rw [Bool.eq_iff_iff]
  simp
  omega
def okText (k : Int → Bool) (m : Int) (s : ByteArray) : Bool := decide (1 ≤ s.size) && decide ((s.size : Int) ≤ m) && (ints s).all k
theorem okText_long (k : Int → Bool) (m : Int) (s : ByteArray) (h : m < s.size) : okText k m s = false := by
 unfold okText; simp; omega
theorem okText_none (k : Int → Bool) (m : Int) (s : ByteArray) (h : s.size = 0) : okText k m s = false := by
 unfold okText; simp [h]
theorem okText_all (k : Int → Bool) (m : Int) (s : ByteArray) (h : 1 ≤ s.size) (h' : (s.size : Int) ≤ m) (ha : ∀ j, j < s.size → k ((ints s).getD j 0) = true) : okText k m s = true := by
 unfold okText
 simp only [h, h', decide_true, Bool.true_and, List.all_eq_true]
 intro x hx
 obtain ⟨i, hi, rfl⟩ := List.mem_iff_getElem.1 hx
 have := ha i (by rw [← ints_length]; exact hi)
 rw [List.getD_eq_getElem?_getD, List.getElem?_eq_getElem hi] at this
 exact this
theorem okText_bad (k : Int → Bool) (m : Int) (s : ByteArray) (j : Nat) (hj : j < s.size) (ha : k ((ints s).getD j 0) = false) : okText k m s = false := by
 unfold okText
 have hj' : j < (ints s).length := by rw [ints_length]; exact hj
 have : (ints s).all k = false := by
  rw [List.all_eq_false]
  refine ⟨(ints s)[j], List.getElem_mem hj', ?_⟩
  rw [List.getD_eq_getElem?_getD, List.getElem?_eq_getElem hj'] at ha
  simpa using ha
 rw [this]; simp
theorem fits_any (s o : ByteArray) (m : Int) (B : Nat) (w : World) (hs : s.size ≤ 140737488351232) (hc : w.cell? ⟨B, 0, none⟩ = some (.string o)) :
    Calls Tryz.prog 125 #[.string s, .int .i64 m, .func (.func 150) #[] #[.pointer (some ⟨B, 0, none⟩)]] w fun e w' => e = .returned (.bool (okText (kind o.data.toList) m s)) ∧ w = w' := by
 by_cases he : s.size = 0
 · have he' : (s.size : Int) = 0 := by omega
   go_enter Tryz.func125, Tryz.ntmps125
   go_wp2
   go_ret
   exact ⟨ret_bool (okText_none _ _ _ he).symm, rfl⟩
 by_cases hm : m < (s.size : Int)
 · go_enter Tryz.func125, Tryz.ntmps125
   go_wp2
   go_ret
   exact ⟨ret_bool (okText_long _ _ _ hm).symm, rfl⟩
 go_enter Tryz.func125, Tryz.ntmps125
 go_wp2
 go_loop [19] (fun i => ∃ k : Nat, k ≤ s.size ∧ i = .int .i64 k ∧ ∀ j, j < k → kind o.data.toList ((ints s).getD j 0) = true) (fun i => s.size - (intOf i).toNat)
 case atStart => exact ⟨0, Nat.zero_le _, rfl, fun j hj => by omega⟩
 case round =>
  obtain ⟨k, hk, rfl, hall⟩ := hrel
  have HA : Hid (∀ j, j < k → kind o.data.toList ((ints s).getD j 0) = true) := hall
  clear hall
  by_cases hlt : k < s.size
  · have HG : Hid ((ints s).getD k 0 = (s[k].toNat : Int)) := ints_getD s k hlt
    have hb1 : (s[k].toNat : Int) ≤ 255 := by have := s[k].toNat_lt; omega
    by_cases hb : kind o.data.toList (s[k].toNat : Int) = true
    · go_wp2_with (go_at_call 150; refine (letter_clo o _ B _ hc (by omega) (by omega)).mono ?_; rintro e w' ⟨rfl, rfl⟩)
      go_round
      case rel => exact ⟨k + 1, by omega, by go_num, fun j hj => by
                            by_cases e : j = k
                            · rw [e, HG.out]; exact hb
                            · exact HA.out j (by omega)⟩
      case measure => simp [intOf]; omega
    · have hb' : kind o.data.toList (s[k].toNat : Int) = false := by simpa using hb
      clear hb
      go_wp2_with (go_at_call 150; refine (letter_clo o _ B _ hc (by omega) (by omega)).mono ?_; rintro e w' ⟨rfl, rfl⟩)
      go_ret
      exact ⟨ret_bool (okText_bad _ _ _ k hlt (by rw [HG.out]; exact hb')).symm, rfl⟩
  · obtain rfl : k = s.size := by omega
    go_wp2
    go_ret
    exact ⟨ret_bool (okText_all _ _ _ (by omega) (by omega) HA.out).symm, rfl⟩
def small (c : Int) : Bool := (decide (97 ≤ c) && decide (c ≤ 122)) || (decide (48 ≤ c) && decide (c ≤ 57)) || decide (c = 46)
def kSrv (c : Int) : Bool := small c || decide (c = 45)
def kLoc (c : Int) : Bool := small c || decide (c = 45) || decide (c = 95)
def kTyp (c : Int) : Bool := small c || decide (c = 95)
def srv (s : ByteArray) : Bool := okText kSrv 32 s
def loc (s : ByteArray) : Bool := okText kLoc 32 s
def typ (s : ByteArray) : Bool := okText kTyp 64 s
theorem kind_srv : ∀ n : Fin 256, kind [46, 45] (n.val : Int) = kSrv n.val := by decide +kernel
theorem kind_loc : ∀ n : Fin 256, kind [46, 95, 45] (n.val : Int) = kLoc n.val := by decide +kernel
theorem kind_typ : ∀ n : Fin 256, kind [46, 95] (n.val : Int) = kTyp n.val := by decide +kernel
theorem okText_congr {k k' : Int → Bool} (h : ∀ n : Fin 256, k (n.val : Int) = k' n.val) (m : Int) (s : ByteArray) : okText k m s = okText k' m s := by
 unfold okText
 congr 1
 rw [Bool.eq_iff_iff, List.all_eq_true, List.all_eq_true]
 constructor <;> intro ha x hx
 · have hb := ints_bd s x hx
   have := h ⟨x.toNat, by omega⟩
   have e : ((x.toNat : Nat) : Int) = x := by omega
   rw [e] at this
   rw [← this]; exact ha x hx
 · have hb := ints_bd s x hx
   have := h ⟨x.toNat, by omega⟩
   have e : ((x.toNat : Nat) : Int) = x := by omega
   rw [e] at this
   rw [this]; exact ha x hx
theorem cell_new (w : World) (v : Value) (t : Nat) : (w.alloc (.cells #[v] t)).cell? ⟨w.heap.size, 0, none⟩ = some v :=
 World.cell?_alloc_at _ _ _ _ rfl
theorem letterOr_any (o : ByteArray) (w : World) :
    Calls Tryz.prog 126 #[.string o] w fun e w' => e = .returned (.func (.func 150) #[] #[.pointer (some ⟨w.heap.size, 0, none⟩)]) ∧ w' = w.alloc (.cells #[.string o] 9) := by
 go_enter Tryz.func126, Tryz.ntmps126
 go_wp2
 go_ret
 exact ⟨rfl, rfl⟩
theorem server_any (s : ByteArray) (w : World) (hs : s.size ≤ 140737488351232) :
    Calls Tryz.prog 169 #[.string s] w fun e w' => e = .returned (.bool (srv s)) ∧ Below w.heap.size w w' := by
 have hc := cell_new w (.string ⟨#[46, 45]⟩) 9
 go_enter Tryz.func169, Tryz.ntmps169
 go_wp2_with (first
  | (go_at_call 126; refine (letterOr_any _ _).mono ?_; rintro e w' ⟨rfl, rfl⟩)
  | (go_at_call 125; refine (fits_any s _ 32 _ _ hs hc).mono ?_; rintro e w' ⟨rfl, rfl⟩))
 go_ret
 exact ⟨ret_bool (okText_congr kind_srv 32 s), (Below.refl _ _).alloc (Nat.le_refl _) _⟩
theorem local_any (s : ByteArray) (w : World) (hs : s.size ≤ 140737488351232) :
    Calls Tryz.prog 168 #[.string s] w fun e w' => e = .returned (.bool (loc s)) ∧ Below w.heap.size w w' := by
 have hc := cell_new w (.string ⟨#[46, 95, 45]⟩) 9
 go_enter Tryz.func168, Tryz.ntmps168
 go_wp2_with (first
  | (go_at_call 126; refine (letterOr_any _ _).mono ?_; rintro e w' ⟨rfl, rfl⟩)
  | (go_at_call 125; refine (fits_any s _ 32 _ _ hs hc).mono ?_; rintro e w' ⟨rfl, rfl⟩))
 go_ret
 exact ⟨ret_bool (okText_congr kind_loc 32 s), (Below.refl _ _).alloc (Nat.le_refl _) _⟩
theorem type_any (s : ByteArray) (w : World) (hs : s.size ≤ 140737488351232) :
    Calls Tryz.prog 94 #[.string s] w fun e w' => e = .returned (.bool (typ s)) ∧ Below w.heap.size w w' := by
 have hc := cell_new w (.string ⟨#[46, 95]⟩) 9
 go_enter Tryz.func94, Tryz.ntmps94
 go_wp2_with (first
  | (go_at_call 126; refine (letterOr_any _ _).mono ?_; rintro e w' ⟨rfl, rfl⟩)
  | (go_at_call 125; refine (fits_any s _ 64 _ _ hs hc).mono ?_; rintro e w' ⟨rfl, rfl⟩))
 go_ret
 exact ⟨ret_bool (okText_congr kind_typ 64 s), (Below.refl _ _).alloc (Nat.le_refl _) _⟩
theorem small_any (c : Int) (w : World) :
    Calls Tryz.prog 130 #[.int .u8 c] w fun e w' => e = .returned (.bool (small c)) ∧ w = w' := by
 go_enter Tryz.func130, Tryz.ntmps130
 go_wp2
 all_goals
  go_ret
  refine ⟨ret_bool ?_, rfl⟩
  unfold small
  rw [Bool.eq_iff_iff]
  simp
  omega
def nix : ByteArray := ⟨#[]⟩
def parts (c : Int) (s : ByteArray) : ByteArray × ByteArray × Bool :=
 if 0 < s.size ∧ (ints s).getD 0 0 = c ∧ ((ints s).drop 1).findIdx (· == 58) + 1 < s.size ∧ loc (s.extract 1 (((ints s).drop 1).findIdx (· == 58) + 1)) = true ∧ srv (s.extract (((ints s).drop 1).findIdx (· == 58) + 2) s.size) = true
 then (s.extract 1 (((ints s).drop 1).findIdx (· == 58) + 1), s.extract (((ints s).drop 1).findIdx (· == 58) + 2) s.size, true) else (nix, nix, false)
theorem getD_drop1 (l : List Int) (j : Nat) : (l.drop 1).getD j 0 = l.getD (j + 1) 0 := by
 simp [List.getD_eq_getElem?_getD]
theorem find_hit (l : List Int) (k : Nat) (hk : k < l.length) (hc : l.getD k 0 = 58) (ha : ∀ j, j < k → l.getD j 0 ≠ 58) : l.findIdx (· == 58) = k := by
 induction l generalizing k with
 | nil => simp at hk
 | cons a l ih =>
  rw [List.findIdx_cons]
  match k with
  | 0 => simp at hc; simp [hc]
  | k + 1 =>
   have h0 := ha 0 (by omega)
   simp only [List.getD_cons_zero] at h0
   have h1 : (a == 58) = false := by simp [h0]
   rw [h1]
   simp only [cond_false]
   rw [ih k (by simpa using hk) (by simpa using hc) (fun j hj => by simpa using ha (j + 1) (by omega))]
theorem find_miss (l : List Int) (ha : ∀ j, j < l.length → l.getD j 0 ≠ 58) : l.findIdx (· == 58) = l.length := by
 induction l with
 | nil => rfl
 | cons a l ih =>
  have h0 := ha 0 (by simp)
  simp only [List.getD_cons_zero] at h0
  have h1 : (a == 58) = false := by simp [h0]
  rw [List.findIdx_cons, h1]
  simp only [cond_false]
  rw [ih (fun j hj => by simpa using ha (j + 1) (by simpa using hj))]
  simp
theorem idx_hit (l : List UInt8) (k : Nat) (hk : k < l.length) (hc : (l.map fun c => (c.toNat : Int)).getD k 0 = 58) (ha : ∀ j, j < k → (l.map fun c => (c.toNat : Int)).getD j 0 ≠ 58) : Lib.indexByte l 58 = k := by
 induction l generalizing k with
 | nil => simp at hk
 | cons a l ih =>
  unfold Lib.indexByte
  match k with
  | 0 =>
   have : a = 58 := by
    simp at hc
    exact UInt8.toNat_inj.1 (by simpa using (by omega : a.toNat = 58))
   simp [this]
  | k + 1 =>
   have h0 := ha 0 (by omega)
   have h1 : (a == 58) = false := by
    simp only [List.map_cons, List.getD_cons_zero] at h0
    simp only [beq_eq_false_iff_ne, ne_eq]
    intro h; subst h; exact h0 rfl
   rw [h1, ih k (by simpa using hk) (by simpa using hc) (fun j hj => by simpa using ha (j + 1) (by omega))]
   have h2 : ((k : Int) == -1) = false := by simp
   simp [h2]
theorem idx_miss (l : List UInt8) (ha : ∀ j, j < l.length → (l.map fun c => (c.toNat : Int)).getD j 0 ≠ 58) : Lib.indexByte l 58 = -1 := by
 induction l with
 | nil => rfl
 | cons a l ih =>
  unfold Lib.indexByte
  have h0 := ha 0 (by simp)
  have h1 : (a == 58) = false := by
   simp only [List.map_cons, List.getD_cons_zero] at h0
   simp only [beq_eq_false_iff_ne, ne_eq]
   intro h; subst h; exact h0 rfl
  rw [h1, ih (fun j hj => by simpa using ha (j + 1) (by simpa using hj))]
  simp
theorem parts_hit (c : Int) (s : ByteArray) (k : Nat) (h0 : (ints s).getD 0 0 = c) (h1 : 1 ≤ k) (hk : k < s.size) (hc : (ints s).getD k 0 = 58) (ha : ∀ j, 1 ≤ j → j < k → (ints s).getD j 0 ≠ 58) :
    parts c s = if loc (s.extract 1 k) = true ∧ srv (s.extract (k + 1) s.size) = true then (s.extract 1 k, s.extract (k + 1) s.size, true) else (nix, nix, false) := by
 have hf : ((ints s).drop 1).findIdx (· == 58) = k - 1 := by
  refine find_hit _ _ (by simp [ints_length]; omega) ?_ fun j hj => ?_
  · rw [getD_drop1, Nat.sub_add_cancel h1]; exact hc
  · rw [getD_drop1]; exact ha (j + 1) (by omega) (by omega)
 unfold parts
 rw [hf]
 have e1 : k - 1 + 1 = k := by omega
 have e2 : k - 1 + 2 = k + 1 := by omega
 rw [e1, e2]
 by_cases hl : loc (s.extract 1 k) = true ∧ srv (s.extract (k + 1) s.size) = true
 · rw [if_pos hl, if_pos ⟨by omega, h0, hk, hl.1, hl.2⟩]
 · rw [if_neg hl, if_neg fun h => hl ⟨h.2.2.2.1, h.2.2.2.2⟩]
theorem parts_other (c : Int) (s : ByteArray) (h : s.size = 0 ∨ (ints s).getD 0 0 ≠ c ∨ ∀ j, 1 ≤ j → j < s.size → (ints s).getD j 0 ≠ 58) : parts c s = (nix, nix, false) := by
 unfold parts
 rw [if_neg]
 intro ⟨g0, g1, g2, _⟩
 rcases h with h | h | h
 · omega
 · exact h g1
 · have : ((ints s).drop 1).findIdx (· == 58) = ((ints s).drop 1).length := find_miss _ fun j hj => by
     rw [getD_drop1]; exact h (j + 1) (by omega) (by simp [ints_length] at hj; omega)
   rw [this] at g2
   simp [ints_length] at g2
   omega
theorem colon_cases (s : ByteArray) : (∃ k, 1 ≤ k ∧ k < s.size ∧ (ints s).getD k 0 = 58 ∧ ∀ j, 1 ≤ j → j < k → (ints s).getD j 0 ≠ 58) ∨ ∀ j, 1 ≤ j → j < s.size → (ints s).getD j 0 ≠ 58 := by
 have : ∀ n, (∃ k, 1 ≤ k ∧ k < n ∧ (ints s).getD k 0 = 58 ∧ ∀ j, 1 ≤ j → j < k → (ints s).getD j 0 ≠ 58) ∨ ∀ j, 1 ≤ j → j < n → (ints s).getD j 0 ≠ 58 := by
  intro n
  induction n with
  | zero => exact .inr fun j _ hj => by omega
  | succ n ih =>
   rcases ih with ⟨k, h1, h2, h3, h4⟩ | h
   · exact .inl ⟨k, h1, by omega, h3, h4⟩
   · by_cases hn : 1 ≤ n ∧ (ints s).getD n 0 = 58
     · exact .inl ⟨n, hn.1, by omega, hn.2, h⟩
     · refine .inr fun j h1 h2 => ?_
       by_cases e : j = n
       · subst e; exact fun he => hn ⟨h1, he⟩
       · exact h j h1 (by omega)
 exact this s.size
theorem cut_name (s : ByteArray) (k : Nat) (h1 : 1 ≤ k) (hk : k ≤ s.size) : (s.extract 1 s.size).extract 0 (k - 1) = s.extract 1 k := by
 rw [ByteArray.extract_extract]
 congr 1
 omega
theorem cut_server (s : ByteArray) (k : Nat) : (s.extract 1 s.size).extract k (s.extract 1 s.size).size = s.extract (k + 1) s.size := by
 rw [ByteArray.extract_extract]
 simp
 congr 1
 all_goals omega
theorem below_drewN (w : World) : ∀ n, Below w.heap.size w (w.drewN n)
 | 0 => by rw [World.drewN_zero]; exact Below.refl _ _
 | n + 1 => by rw [← World.drew_drewN]; exact (below_drewN w n).drew
theorem take_one' (l : List UInt8) (h : 0 < l.length) : l.take 1 = [l[0]] := by
 cases l with
 | nil => simp at h
 | cons a l => simp
theorem one_head (s : ByteArray) (h : 0 < s.size) : (s.extract 0 1).toList = [s[0]] := by
 rw [Lib.toList_data, ByteArray.data_extract, Array.toList_extract]
 simp only [List.extract_eq_take_drop, List.drop_zero, Nat.sub_zero]
 rw [take_one' _ (by simpa using h)]
 simp [ByteArray.getElem_eq_getElem_data]
theorem hasPrefix_yes (s : ByteArray) (c : UInt8) (w : World) (hs : s.size ≤ 140737488351232) (h : 0 < s.size) (hc : s[0] = c) :
    Calls Tryz.prog 184 #[.string s, .string ⟨#[c]⟩] w fun e w' => e = .returned (.bool true) ∧ w = w' := by
 have h1 : ((s.extract 0 1).toList == [c]) = true := by rw [one_head s h, hc]; simp
 go_enter Tryz.func184, Tryz.ntmps184
 go_wp2
 go_ret
 exact ⟨rfl, rfl⟩
theorem hasPrefix_no (s : ByteArray) (c : UInt8) (w : World) (hs : s.size ≤ 140737488351232) (h : ∀ h : 0 < s.size, s[0] ≠ c) :
    Calls Tryz.prog 184 #[.string s, .string ⟨#[c]⟩] w fun e w' => e = .returned (.bool false) ∧ w = w' := by
 by_cases h0 : 0 < s.size
 · have h1 : ((s.extract 0 1).toList == [c]) = false := by rw [one_head s h0]; simp [h h0]
   go_enter Tryz.func184, Tryz.ntmps184
   go_wp2
   go_ret
   exact ⟨rfl, rfl⟩
 · go_enter Tryz.func184, Tryz.ntmps184
   go_wp2
   go_ret
   exact ⟨rfl, rfl⟩
theorem liteCutPrefix_yes (s : ByteArray) (c : UInt8) (w : World) (hs : s.size ≤ 140737488351232) (h : 0 < s.size) (hc : s[0] = c) :
    Calls Tryz.prog 178 #[.string s, .string ⟨#[c]⟩] w fun e w' => e = .returned (.tuple #[.string (s.extract 1 s.size), .bool true]) ∧ w = w' := by
 go_enter Tryz.func178, Tryz.ntmps178
 go_wp2_with (go_at_call 184; refine (hasPrefix_yes s c _ hs h hc).mono ?_; rintro e w' ⟨rfl, rfl⟩)
 go_ret2
 exact ⟨rfl, rfl⟩
theorem liteCutPrefix_no (s : ByteArray) (c : UInt8) (w : World) (hs : s.size ≤ 140737488351232) (h : ∀ h : 0 < s.size, s[0] ≠ c) :
    Calls Tryz.prog 178 #[.string s, .string ⟨#[c]⟩] w fun e w' => e = .returned (.tuple #[.string s, .bool false]) ∧ w = w' := by
 go_enter Tryz.func178, Tryz.ntmps178
 go_wp2_with (go_at_call 184; refine (hasPrefix_no s c _ hs h).mono ?_; rintro e w' ⟨rfl, rfl⟩)
 go_ret2
 exact ⟨rfl, rfl⟩
theorem cutPrefix_yes (s : ByteArray) (c : UInt8) (w : World) (hs : s.size ≤ 140737488351232) (h : 0 < s.size) (hc : s[0] = c) :
    Calls Tryz.prog 166 #[.string s, .string ⟨#[c]⟩] w fun e w' => e = .returned (.tuple #[.string (s.extract 1 s.size), .bool true]) ∧ w = w' := by
 go_enter Tryz.func166, Tryz.ntmps166
 go_wp2_with (go_at_call 178; refine (liteCutPrefix_yes s c _ hs h hc).mono ?_; rintro e w' ⟨rfl, rfl⟩)
 go_ret2
 exact ⟨rfl, rfl⟩
theorem cutPrefix_no (s : ByteArray) (c : UInt8) (w : World) (hs : s.size ≤ 140737488351232) (h : ∀ h : 0 < s.size, s[0] ≠ c) :
    Calls Tryz.prog 166 #[.string s, .string ⟨#[c]⟩] w fun e w' => e = .returned (.tuple #[.string s, .bool false]) ∧ w = w' := by
 go_enter Tryz.func166, Tryz.ntmps166
 go_wp2_with (go_at_call 178; refine (liteCutPrefix_no s c _ hs h).mono ?_; rintro e w' ⟨rfl, rfl⟩)
 go_ret2
 exact ⟨rfl, rfl⟩
theorem index_one (s : ByteArray) (w : World) :
    Calls Tryz.prog 185 #[.string s, .string ⟨#[58]⟩] w fun e w' => e = .returned (.int .i64 (Lib.indexByte s.data.toList 58)) ∧ w = w' := by
 go_enter Tryz.func185, Tryz.ntmps185
 go_wp2_with (go_at_call 170; refine (liteIndexByte_any _ _ _).mono ?_; rintro e w' ⟨rfl, rfl⟩)
 · have h : ([58] == s.toList) = true := by assumption
   go_ret
   refine ⟨?_, rfl⟩
   have e : s.data.toList = [58] := by rw [← Lib.toList_data]; exact (beq_iff_eq.1 h).symm
   rw [e]
   simp [Lib.indexByte]
 · go_ret
   exact ⟨rfl, rfl⟩
theorem liteCut_no (t : ByteArray) (w : World) (hi : Lib.indexByte t.data.toList 58 = -1) :
    Calls Tryz.prog 179 #[.string t, .string ⟨#[58]⟩] w fun e w' => e = .returned (.tuple #[.string t, .string ⟨#[]⟩, .bool false]) ∧ Below w.heap.size w w' := by
 go_enter Tryz.func179, Tryz.ntmps179
 go_wp2_with (go_at_call 185; refine (index_one t _).mono ?_; rw [hi]; rintro e w' ⟨rfl, rfl⟩)
 go_ret3
 exact ⟨rfl, Below.refl _ _⟩
theorem cut_no (t : ByteArray) (w : World) (hi : Lib.indexByte t.data.toList 58 = -1) :
    Calls Tryz.prog 167 #[.string t, .string ⟨#[58]⟩] w fun e w' => e = .returned (.tuple #[.string t, .string ⟨#[]⟩, .bool false]) ∧ Below w.heap.size w w' := by
 go_enter Tryz.func167, Tryz.ntmps167
 go_wp2_with (go_at_call 179; refine (liteCut_no t _ hi).mono ?_; rintro e w' ⟨rfl, hb⟩)
 go_ret3
 exact ⟨rfl, hb⟩
theorem liteCut_yes (t : ByteArray) (k : Nat) (w : World) (hs : t.size ≤ 140737488351232) (hk : k < t.size) (hi : Lib.indexByte t.data.toList 58 = k) :
    Calls Tryz.prog 179 #[.string t, .string ⟨#[58]⟩] w fun e w' => e = .returned (.tuple #[.string (t.extract 0 k), .string (t.extract (k + 1) t.size), .bool true]) ∧ Below w.heap.size w w' := by
 go_enter Tryz.func179, Tryz.ntmps179
 go_wp2_with (go_at_call 185; refine (index_one t _).mono ?_; rw [hi]; rintro e w' ⟨rfl, rfl⟩)
 go_quiet (fail)
 go_wp2
 go_ret3
 exact ⟨rfl, below_drewN _ _⟩
theorem cut_yes (t : ByteArray) (k : Nat) (w : World) (hs : t.size ≤ 140737488351232) (hk : k < t.size) (hi : Lib.indexByte t.data.toList 58 = k) :
    Calls Tryz.prog 167 #[.string t, .string ⟨#[58]⟩] w fun e w' => e = .returned (.tuple #[.string (t.extract 0 k), .string (t.extract (k + 1) t.size), .bool true]) ∧ Below w.heap.size w w' := by
 go_enter Tryz.func167, Tryz.ntmps167
 go_wp2_with (go_at_call 179; refine (liteCut_yes t k _ hs hk hi).mono ?_; rintro e w' ⟨rfl, hb⟩)
 go_ret3
 exact ⟨rfl, hb⟩
def told (p : ByteArray × ByteArray × Bool) : Value := .tuple #[.string p.1, .string p.2.1, .bool p.2.2]
theorem ret_told {a b : ByteArray} {t : Bool} {p : ByteArray × ByteArray × Bool} (h : p = (a, b, t)) : Ending.returned (.tuple #[.string a, .string b, .bool t]) = .returned (told p) := by rw [h]; rfl
theorem u8_int (a c : UInt8) : (a.toNat : Int) = (c.toNat : Int) ↔ a = c := by
 constructor
 · intro h; exact UInt8.toNat_inj.1 (by omega)
 · intro h; rw [h]
theorem apart_any (s : ByteArray) (c : UInt8) (w : World) (hs : s.size ≤ 140737488351232) :
    Calls Tryz.prog 149 #[.string s, .string ⟨#[c]⟩] w fun e w' => e = .returned (told (parts (c.toNat : Int) s)) ∧ Below w.heap.size w w' := by
 by_cases hp : ∀ h : 0 < s.size, s[0] ≠ c
 · have HP : Hid (parts (c.toNat : Int) s = (nix, nix, false)) := by
     refine parts_other _ _ ?_
     by_cases h0 : s.size = 0
     · exact .inl h0
     · refine .inr (.inl ?_)
       rw [ints_getD s 0 (by omega), ne_eq, u8_int]
       exact hp (by omega)
   go_enter Tryz.func149, Tryz.ntmps149
   go_wp2_with (go_at_call 166; refine (cutPrefix_no s c _ hs hp).mono ?_; rintro e w' ⟨rfl, rfl⟩)
   go_ret3
   exact ⟨ret_told HP.out, Below.refl _ _⟩
 · obtain ⟨h0, hc⟩ : ∃ h : 0 < s.size, s[0] = c := by simpa using hp
   clear hp
   have hg : (ints s).getD 0 0 = (c.toNat : Int) := by rw [ints_getD s 0 h0, hc]
   have hsz : (s.extract 1 s.size).size ≤ 140737488351232 := by simp; omega
   have hii : (s.extract 1 s.size).data.toList.map (fun c => (c.toNat : Int)) = (ints s).drop 1 := ints_extract s 1
   rcases colon_cases s with ⟨k, h1, hk, hkc, hka⟩ | hno
   · have hi : Lib.indexByte (s.extract 1 s.size).data.toList 58 = ((k - 1 : Nat) : Int) := by
       refine idx_hit _ _ ?_ ?_ fun j hj => ?_
       · rw [← Lib.size_eq]; simp; omega
       · rw [hii, getD_drop1, Nat.sub_add_cancel h1]; exact hkc
       · rw [hii, getD_drop1]; exact hka (j + 1) (by omega) (by omega)
     have hcut := fun wx : World => cut_yes (s.extract 1 s.size) (k - 1) wx hsz (by simp; omega) hi
     rw [cut_name s k h1 (by omega), Nat.sub_add_cancel h1, cut_server s k] at hcut
     have HP : Hid (parts (c.toNat : Int) s = if loc (s.extract 1 k) = true ∧ srv (s.extract (k + 1) s.size) = true then (s.extract 1 k, s.extract (k + 1) s.size, true) else (nix, nix, false)) := parts_hit _ s k hg h1 hk hkc hka
     have hl1 : (s.extract 1 k).size ≤ 140737488351232 := by simp; omega
     have hl2 : (s.extract (k + 1) s.size).size ≤ 140737488351232 := by simp; omega
     obtain ⟨t1, ht1⟩ : ∃ t, t = s.extract 1 k := ⟨_, rfl⟩
     obtain ⟨t2, ht2⟩ : ∃ t, t = s.extract (k + 1) s.size := ⟨_, rfl⟩
     rw [← ht1, ← ht2] at HP hcut
     rw [← ht1] at hl1
     rw [← ht2] at hl2
     clear ht1 ht2 hi hii hka hkc
     by_cases hL : loc t1 = true
     · by_cases hS : srv t2 = true
       · go_enter Tryz.func149, Tryz.ntmps149
         go_wp2_with (first
          | (go_at_call 166; refine (cutPrefix_yes s c _ hs h0 hc).mono ?_; rintro e w' ⟨rfl, rfl⟩)
          | (go_at_call 167; refine (hcut _).mono ?_; rintro e w1 ⟨rfl, hb1⟩)
          | (go_at_call 168; refine (local_any t1 _ hl1).mono ?_; rintro e w2 ⟨rfl, hb2⟩)
          | (go_at_call 169; refine (server_any t2 _ hl2).mono ?_; rintro e w3 ⟨rfl, hb3⟩))
         go_ret3
         have c2 := hb1.trans (hb2.mono hb1.size)
         exact ⟨ret_told (by rw [HP.out, if_pos ⟨hL, hS⟩]), c2.trans (hb3.mono c2.size)⟩
       · have hS' : srv t2 = false := by simpa using hS
         go_enter Tryz.func149, Tryz.ntmps149
         go_wp2_with (first
          | (go_at_call 166; refine (cutPrefix_yes s c _ hs h0 hc).mono ?_; rintro e w' ⟨rfl, rfl⟩)
          | (go_at_call 167; refine (hcut _).mono ?_; rintro e w1 ⟨rfl, hb1⟩)
          | (go_at_call 168; refine (local_any t1 _ hl1).mono ?_; rintro e w2 ⟨rfl, hb2⟩)
          | (go_at_call 169; refine (server_any t2 _ hl2).mono ?_; rintro e w3 ⟨rfl, hb3⟩))
         go_ret3
         have c2 := hb1.trans (hb2.mono hb1.size)
         exact ⟨ret_told (by rw [HP.out, if_neg (by simp [hS'])]; rfl), c2.trans (hb3.mono c2.size)⟩
     · have hL' : loc t1 = false := by simpa using hL
       clear hL
       go_enter Tryz.func149, Tryz.ntmps149
       go_wp2_with (first
        | (go_at_call 166; refine (cutPrefix_yes s c _ hs h0 hc).mono ?_; rintro e w' ⟨rfl, rfl⟩)
        | (go_at_call 167; refine (hcut _).mono ?_; rintro e w1 ⟨rfl, hb1⟩)
        | (go_at_call 168; refine (local_any t1 _ hl1).mono ?_; rintro e w2 ⟨rfl, hb2⟩))
       go_ret3
       exact ⟨ret_told (by rw [HP.out, if_neg (by simp [hL'])]; rfl), hb1.trans (hb2.mono hb1.size)⟩
   · have hi : Lib.indexByte (s.extract 1 s.size).data.toList 58 = -1 := by
       refine idx_miss _ fun j hj => ?_
       rw [← Lib.size_eq] at hj
       simp at hj
       rw [hii, getD_drop1]; exact hno (j + 1) (by omega) (by omega)
     have HP : Hid (parts (c.toNat : Int) s = (nix, nix, false)) := parts_other _ _ (.inr (.inr hno))
     have hcut := fun wx : World => cut_no (s.extract 1 s.size) wx hi
     go_enter Tryz.func149, Tryz.ntmps149
     go_wp2_with (first
      | (go_at_call 166; refine (cutPrefix_yes s c _ hs h0 hc).mono ?_; rintro e w' ⟨rfl, rfl⟩)
      | (go_at_call 167; refine (hcut _).mono ?_; rintro e w1 ⟨rfl, hb1⟩))
     go_ret3
     exact ⟨ret_told HP.out, hb1⟩
theorem user_any (s : ByteArray) (w : World) (hs : s.size ≤ 140737488351232) :
    Calls Tryz.prog 124 #[.string s] w fun e w' => e = .returned (told (parts 64 s)) ∧ Below w.heap.size w w' := by
 go_enter Tryz.func124, Tryz.ntmps124
 go_wp2_with (go_at_call 149; refine (apart_any s 64 _ hs).mono ?_; rintro e w1 ⟨rfl, hb1⟩; unfold told)
 go_ret3
 exact ⟨rfl, hb1⟩
theorem refServer_any (s : ByteArray) (w : World) (hs : s.size ≤ 140737488351232) :
    Calls Tryz.prog 173 #[.string s] w fun e w' => e = .returned (.bool (srv s)) ∧ w = w' := by
 unfold srv
 by_cases he : s.size = 0
 · have he' : (s.size : Int) = 0 := by omega
   go_enter Tryz.func173, Tryz.ntmps173
   go_wp2
   go_ret
   exact ⟨ret_bool (okText_none _ _ _ he).symm, rfl⟩
 by_cases hm : 32 < (s.size : Int)
 · go_enter Tryz.func173, Tryz.ntmps173
   go_wp2
   go_ret
   exact ⟨ret_bool (okText_long _ _ _ hm).symm, rfl⟩
 go_enter Tryz.func173, Tryz.ntmps173
 go_wp2
 go_loop [3] (fun i => ∃ k : Nat, k ≤ s.size ∧ i = .int .i64 k ∧ ∀ j, j < k → kSrv ((ints s).getD j 0) = true) (fun i => s.size - (intOf i).toNat)
 case atStart => exact ⟨0, Nat.zero_le _, rfl, fun j hj => by omega⟩
 case round =>
  obtain ⟨k, hk, rfl, hall⟩ := hrel
  have HA : Hid (∀ j, j < k → kSrv ((ints s).getD j 0) = true) := hall
  clear hall
  by_cases hlt : k < s.size
  · have HG : Hid ((ints s).getD k 0 = (s[k].toNat : Int)) := ints_getD s k hlt
    have hb1 : (s[k].toNat : Int) ≤ 255 := by have := s[k].toNat_lt; omega
    by_cases h0 : small (s[k].toNat : Int) = true
    · have HB : Hid (kSrv ((ints s).getD k 0) = true) := by rw [HG.out]; unfold kSrv; simp [h0]; exact trivial
      go_wp2_with (go_at_call 130; refine (small_any _ _).mono ?_; rintro e w' ⟨rfl, rfl⟩)
      go_round
      case rel => exact ⟨k + 1, by omega, by go_num, fun j hj => by
                            by_cases e : j = k
                            · rw [e]; exact HB.out
                            · exact HA.out j (by omega)⟩
      case measure => simp [intOf]; omega
    have h0' : small (s[k].toNat : Int) = false := by simpa using h0
    clear h0
    by_cases h45 : (s[k].toNat : Int) = 45
    · have HB : Hid (kSrv ((ints s).getD k 0) = true) := by rw [HG.out]; unfold kSrv; simp [h45]; exact trivial
      go_wp2_with (go_at_call 130; refine (small_any _ _).mono ?_; rintro e w' ⟨rfl, rfl⟩)
      go_round
      case rel => exact ⟨k + 1, by omega, by go_num, fun j hj => by
                            by_cases e : j = k
                            · rw [e]; exact HB.out
                            · exact HA.out j (by omega)⟩
      case measure => simp [intOf]; omega
    have HB : Hid (kSrv ((ints s).getD k 0) = false) := by rw [HG.out]; unfold kSrv; simp [h0', h45]; exact trivial
    go_wp2_with (go_at_call 130; refine (small_any _ _).mono ?_; rintro e w' ⟨rfl, rfl⟩)
    go_ret
    exact ⟨ret_bool (okText_bad _ _ _ k hlt HB.out).symm, rfl⟩
  · obtain rfl : k = s.size := by omega
    go_wp2
    go_ret
    exact ⟨ret_bool (okText_all _ _ _ (by omega) (by omega) HA.out).symm, rfl⟩
theorem refLocal_any (s : ByteArray) (w : World) (hs : s.size ≤ 140737488351232) :
    Calls Tryz.prog 172 #[.string s] w fun e w' => e = .returned (.bool (loc s)) ∧ w = w' := by
 unfold loc
 by_cases he : s.size = 0
 · have he' : (s.size : Int) = 0 := by omega
   go_enter Tryz.func172, Tryz.ntmps172
   go_wp2
   go_ret
   exact ⟨ret_bool (okText_none _ _ _ he).symm, rfl⟩
 by_cases hm : 32 < (s.size : Int)
 · go_enter Tryz.func172, Tryz.ntmps172
   go_wp2
   go_ret
   exact ⟨ret_bool (okText_long _ _ _ hm).symm, rfl⟩
 go_enter Tryz.func172, Tryz.ntmps172
 go_wp2
 go_loop [3] (fun i => ∃ k : Nat, k ≤ s.size ∧ i = .int .i64 k ∧ ∀ j, j < k → kLoc ((ints s).getD j 0) = true) (fun i => s.size - (intOf i).toNat)
 case atStart => exact ⟨0, Nat.zero_le _, rfl, fun j hj => by omega⟩
 case round =>
  obtain ⟨k, hk, rfl, hall⟩ := hrel
  have HA : Hid (∀ j, j < k → kLoc ((ints s).getD j 0) = true) := hall
  clear hall
  by_cases hlt : k < s.size
  · have HG : Hid ((ints s).getD k 0 = (s[k].toNat : Int)) := ints_getD s k hlt
    have hb1 : (s[k].toNat : Int) ≤ 255 := by have := s[k].toNat_lt; omega
    by_cases h0 : small (s[k].toNat : Int) = true
    · have HB : Hid (kLoc ((ints s).getD k 0) = true) := by rw [HG.out]; unfold kLoc; simp [h0]; exact trivial
      go_wp2_with (go_at_call 130; refine (small_any _ _).mono ?_; rintro e w' ⟨rfl, rfl⟩)
      go_round
      case rel => exact ⟨k + 1, by omega, by go_num, fun j hj => by
                            by_cases e : j = k
                            · rw [e]; exact HB.out
                            · exact HA.out j (by omega)⟩
      case measure => simp [intOf]; omega
    have h0' : small (s[k].toNat : Int) = false := by simpa using h0
    clear h0
    by_cases h45 : (s[k].toNat : Int) = 45
    · have HB : Hid (kLoc ((ints s).getD k 0) = true) := by rw [HG.out]; unfold kLoc; simp [h45]; exact trivial
      go_wp2_with (go_at_call 130; refine (small_any _ _).mono ?_; rintro e w' ⟨rfl, rfl⟩)
      go_round
      case rel => exact ⟨k + 1, by omega, by go_num, fun j hj => by
                            by_cases e : j = k
                            · rw [e]; exact HB.out
                            · exact HA.out j (by omega)⟩
      case measure => simp [intOf]; omega
    by_cases h95 : (s[k].toNat : Int) = 95
    · have HB : Hid (kLoc ((ints s).getD k 0) = true) := by rw [HG.out]; unfold kLoc; simp [h95]; exact trivial
      go_wp2_with (go_at_call 130; refine (small_any _ _).mono ?_; rintro e w' ⟨rfl, rfl⟩)
      go_round
      case rel => exact ⟨k + 1, by omega, by go_num, fun j hj => by
                            by_cases e : j = k
                            · rw [e]; exact HB.out
                            · exact HA.out j (by omega)⟩
      case measure => simp [intOf]; omega
    have HB : Hid (kLoc ((ints s).getD k 0) = false) := by rw [HG.out]; unfold kLoc; simp [h0', h45, h95]; exact trivial
    have b45 : ((s[k].toNat : Int) != 45) = true := by simp [h45]
    have b95 : ((s[k].toNat : Int) != 95) = true := by simp [h95]
    go_wp2_with (go_at_call 130; refine (small_any _ _).mono ?_; rintro e w' ⟨rfl, rfl⟩)
    go_ret
    exact ⟨ret_bool (okText_bad _ _ _ k hlt HB.out).symm, rfl⟩
  · obtain rfl : k = s.size := by omega
    go_wp2
    go_ret
    exact ⟨ret_bool (okText_all _ _ _ (by omega) (by omega) HA.out).symm, rfl⟩
theorem refType_any (s : ByteArray) (w : World) (hs : s.size ≤ 140737488351232) :
    Calls Tryz.prog 100 #[.string s] w fun e w' => e = .returned (.bool (typ s)) ∧ w = w' := by
 unfold typ
 by_cases he : s.size = 0
 · have he' : (s.size : Int) = 0 := by omega
   go_enter Tryz.func100, Tryz.ntmps100
   go_wp2
   go_ret
   exact ⟨ret_bool (okText_none _ _ _ he).symm, rfl⟩
 by_cases hm : 64 < (s.size : Int)
 · go_enter Tryz.func100, Tryz.ntmps100
   go_wp2
   go_ret
   exact ⟨ret_bool (okText_long _ _ _ hm).symm, rfl⟩
 go_enter Tryz.func100, Tryz.ntmps100
 go_wp2
 go_loop [3] (fun i => ∃ k : Nat, k ≤ s.size ∧ i = .int .i64 k ∧ ∀ j, j < k → kTyp ((ints s).getD j 0) = true) (fun i => s.size - (intOf i).toNat)
 case atStart => exact ⟨0, Nat.zero_le _, rfl, fun j hj => by omega⟩
 case round =>
  obtain ⟨k, hk, rfl, hall⟩ := hrel
  have HA : Hid (∀ j, j < k → kTyp ((ints s).getD j 0) = true) := hall
  clear hall
  by_cases hlt : k < s.size
  · have HG : Hid ((ints s).getD k 0 = (s[k].toNat : Int)) := ints_getD s k hlt
    have hb1 : (s[k].toNat : Int) ≤ 255 := by have := s[k].toNat_lt; omega
    by_cases h0 : small (s[k].toNat : Int) = true
    · have HB : Hid (kTyp ((ints s).getD k 0) = true) := by rw [HG.out]; unfold kTyp; simp [h0]; exact trivial
      go_wp2_with (go_at_call 130; refine (small_any _ _).mono ?_; rintro e w' ⟨rfl, rfl⟩)
      go_round
      case rel => exact ⟨k + 1, by omega, by go_num, fun j hj => by
                            by_cases e : j = k
                            · rw [e]; exact HB.out
                            · exact HA.out j (by omega)⟩
      case measure => simp [intOf]; omega
    have h0' : small (s[k].toNat : Int) = false := by simpa using h0
    clear h0
    by_cases h95 : (s[k].toNat : Int) = 95
    · have HB : Hid (kTyp ((ints s).getD k 0) = true) := by rw [HG.out]; unfold kTyp; simp [h95]; exact trivial
      go_wp2_with (go_at_call 130; refine (small_any _ _).mono ?_; rintro e w' ⟨rfl, rfl⟩)
      go_round
      case rel => exact ⟨k + 1, by omega, by go_num, fun j hj => by
                            by_cases e : j = k
                            · rw [e]; exact HB.out
                            · exact HA.out j (by omega)⟩
      case measure => simp [intOf]; omega
    have HB : Hid (kTyp ((ints s).getD k 0) = false) := by rw [HG.out]; unfold kTyp; simp [h0', h95]; exact trivial
    go_wp2_with (go_at_call 130; refine (small_any _ _).mono ?_; rintro e w' ⟨rfl, rfl⟩)
    go_ret
    exact ⟨ret_bool (okText_bad _ _ _ k hlt HB.out).symm, rfl⟩
  · obtain rfl : k = s.size := by omega
    go_wp2
    go_ret
    exact ⟨ret_bool (okText_all _ _ _ (by omega) (by omega) HA.out).symm, rfl⟩
theorem refParts_any (s : ByteArray) (c : Int) (w : World) (hs : s.size ≤ 1000000000) :
    Calls Tryz.prog 154 #[.int .u8 c, .string s] w fun e w' => e = .returned (told (parts c s)) ∧ Below w.heap.size w w' := by
 go_enter Tryz.func154, Tryz.ntmps154
 go_wp2
 go_loop [7] (fun i => ∃ k : Nat, 1 ≤ k ∧ (k ≤ s.size ∨ k = 1) ∧ i = .int .i64 k ∧ ∀ j, 1 ≤ j → j < k → (ints s).getD j 0 ≠ 58) (fun i => s.size - (intOf i).toNat)
 case atStart => exact ⟨1, Nat.le_refl _, .inr rfl, rfl, fun j h1 h2 => by omega⟩
 case round =>
  obtain ⟨k, h1, hk, rfl, hall⟩ := hrel
  have HA : Hid (∀ j, 1 ≤ j → j < k → (ints s).getD j 0 ≠ 58) := hall
  clear hall
  by_cases hlt : k < s.size
  · have h0 : 0 < s.size := by omega
    have HG0 : Hid ((ints s).getD 0 0 = (s[0].toNat : Int)) := ints_getD s 0 h0
    by_cases hc : (s[0].toNat : Int) = c
    · have HG : Hid ((ints s).getD k 0 = (s[k].toNat : Int)) := ints_getD s k hlt
      by_cases h58 : (s[k].toNat : Int) = 58
      · have HP : Hid (parts c s = if loc (s.extract 1 k) = true ∧ srv (s.extract (k + 1) s.size) = true then (s.extract 1 k, s.extract (k + 1) s.size, true) else (nix, nix, false)) :=
          parts_hit c s k (by rw [HG0.out]; exact hc) h1 hlt (by rw [HG.out]; exact h58) HA.out
        have hl1 : (s.extract 1 k).size ≤ 140737488351232 := by simp; omega
        have hl2 : (s.extract (k + 1) s.size).size ≤ 140737488351232 := by simp; omega
        by_cases hL : loc (s.extract 1 k) = true
        · by_cases hS : srv (s.extract (k + 1) s.size) = true
          · go_wp2_with (first
              | (go_at_call 172; refine (refLocal_any _ _ hl1).mono ?_; rintro e w' ⟨rfl, rfl⟩)
              | (go_at_call 173; refine (refServer_any _ _ hl2).mono ?_; rintro e w' ⟨rfl, rfl⟩))
            go_quiet (fail)
            go_wp2
            go_ret3
            exact ⟨ret_told (by rw [HP.out, if_pos ⟨hL, hS⟩]), below_drewN _ _⟩
          · have hS' : srv (s.extract (k + 1) s.size) = false := by simpa using hS
            go_wp2_with (first
             | (go_at_call 172; refine (refLocal_any _ _ hl1).mono ?_; rintro e w' ⟨rfl, rfl⟩)
             | (go_at_call 173; refine (refServer_any _ _ hl2).mono ?_; rintro e w' ⟨rfl, rfl⟩))
            go_ret3
            exact ⟨ret_told (by rw [HP.out, if_neg (by simp [hS'])]; rfl), Below.refl _ _⟩
        · have hL' : loc (s.extract 1 k) = false := by simpa using hL
          go_wp2_with (go_at_call 172; refine (refLocal_any _ _ hl1).mono ?_; rintro e w' ⟨rfl, rfl⟩)
          go_ret3
          exact ⟨ret_told (by rw [HP.out, if_neg (by simp [hL'])]; rfl), Below.refl _ _⟩
      · go_wp2
        go_round
        case rel => exact ⟨k + 1, by omega, .inl (by omega), by go_num, fun j hj hj' => by
                              by_cases e : j = k
                              · rw [e, HG.out]; exact h58
                              · exact HA.out j hj (by omega)⟩
        case measure => simp [intOf]; omega
    · go_wp2
      go_ret3
      exact ⟨ret_told (parts_other c s (.inr (.inl (by rw [HG0.out]; exact hc)))), Below.refl _ _⟩
  · go_wp2
    go_ret3
    refine ⟨ret_told (parts_other c s ?_), Below.refl _ _⟩
    exact .inr (.inr fun j hj hj' => HA.out j hj (by omega))
theorem refUser_any (s : ByteArray) (w : World) (hs : s.size ≤ 1000000000) :
    Calls Tryz.prog 129 #[.string s] w fun e w' => e = .returned (told (parts 64 s)) ∧ Below w.heap.size w w' := by
 go_enter Tryz.func129, Tryz.ntmps129
 go_wp2_with (go_at_call 154; refine (refParts_any s 64 _ hs).mono ?_; rintro e w1 ⟨rfl, hb1⟩; unfold told)
 go_ret3
 exact ⟨rfl, hb1⟩
end Go.Proofs.YtimhpglfolbomaaGreat.Id
namespace Go.Proofs.YtimhpglfolbomaaGreat
open Go.RowKit
structure Ev where
 room : ByteArray
 typ : ByteArray
 sender : ByteArray
 st : Bool
 key : ByteArray
 content : J
 prev : List ByteArray
 auth : List ByteArray
 depth : Int
 ts : Int
 hash : ByteArray
 sigs : List (ByteArray × ByteArray)
structure Pt where
 pk : Option Addr
 ck : Nat
 pl : Option Addr
 cl : Nat
 pp : Option Addr
 cp : Nat
 pa : Option Addr
 ca : Nat
 ps : Option Addr
 cs : Nat
def Ev.zero : Ev := ⟨nix, nix, nix, false, nix, J.zero, [], [], 0, 0, nix, []⟩
def Pt.zero : Pt := ⟨none, 0, none, 0, none, 0, none, 0, none, 0⟩
def five (j : J) (p : Pt) : List Value := [.int .i64 j.kind, .int .i64 j.int, .string j.text, .slice p.pk j.keys.length p.ck, .slice p.pl j.list.length p.cl]
def cellsE (e : Ev) (p : Pt) : List Value := [.string e.room, .string e.typ, .string e.sender, .bool e.st, .string e.key, .int .i64 e.content.kind, .int .i64 e.content.int, .string e.content.text, .slice p.pk e.content.keys.length p.ck, .slice p.pl e.content.list.length p.cl, .slice p.pp e.prev.length p.cp, .slice p.pa e.auth.length p.ca, .int .i64 e.depth, .int .i64 e.ts, .string e.hash, .slice p.ps e.sigs.length p.cs]
def valE (e : Ev) (p : Pt) : Value := .agg (cellsE e p).toArray
def RdS (O : Nat → Prop) (w : World) (p : Option Addr) (c : Nat) (l : List (ByteArray × ByteArray)) : Prop :=
 l.length ≤ c ∧ ∀ j, j < l.length → ∃ b o, p = some ⟨b, o, none⟩ ∧ O b ∧ w.cell? ⟨b, o + j * 2, none⟩ = some (.string (l.getD j (nix, nix)).1) ∧ w.cell? ⟨b, o + j * 2 + 1, none⟩ = some (.string (l.getD j (nix, nix)).2)
theorem RdS.nil (O : Nat → Prop) (w : World) (c : Nat) (p : Option Addr) : RdS O w p c [] := ⟨Nat.zero_le _, fun j hj => absurd hj (by simp)⟩
theorem RdS.carry {O O' : Nat → Prop} {w w' : World} {p : Option Addr} {c : Nat} {l : List (ByteArray × ByteArray)} (h : RdS O w p c l) (hO : ∀ k, O k → O' k ∧ w'.heap[k]? = w.heap[k]?) : RdS O' w' p c l :=
 ⟨h.1, fun j hj => by
  obtain ⟨b, o, hp, hB, h1, h2⟩ := h.2 j hj
  exact ⟨b, o, hp, (hO _ hB).1, (World.cell?_of_block (a := ⟨b, o + j * 2, none⟩) (hO _ hB).2).trans h1, (World.cell?_of_block (a := ⟨b, o + j * 2 + 1, none⟩) (hO _ hB).2).trans h2⟩⟩
structure IsE (O : Nat → Prop) (w : World) (e : Ev) (p : Pt) : Prop where
 cont : isJ O w e.content (five e.content p)
 prev : RdK O w p.pp p.cp e.prev
 auth : RdK O w p.pa p.ca e.auth
 sigs : RdS O w p.ps p.cs e.sigs
theorem IsE.carry {O O' : Nat → Prop} {w w' : World} {e : Ev} {p : Pt} (h : IsE O w e p) (hO : ∀ k, O k → O' k ∧ w'.heap[k]? = w.heap[k]?) : IsE O' w' e p :=
 ⟨h.cont.carry hO, h.prev.carry hO, h.auth.carry hO, h.sigs.carry hO⟩
end Go.Proofs.YtimhpglfolbomaaGreat
namespace Go.Proofs.YtimhpglfolbomaaGreat.Od
open Go.RowKit
structure Pa where
 names : List ByteArray
 evs : List Ev
 prev : List (List Int)
 auth : List (List Int)
 den : List Bool
def belowT (l : List Int) (n : Nat) : Bool := l.all fun j => decide (0 ≤ j ∧ j < (n : Int))
def backT (P : List (List Int)) (n : Nat) : Bool := (List.range P.length).all (fun i => belowT (P.getD i []) i) && decide (P.length = n)
def rightT (p : Pa) : Bool := decide (p.names.length = p.evs.length) && decide (p.den.length = p.evs.length) && backT p.prev p.evs.length && backT p.auth p.evs.length
def thereT (n : Nat) (l : List Int) : List Nat := (List.range n).filter fun i => decide ((i : Int) ∈ l)
theorem there_mem {n : Nat} {l : List Int} {x : Nat} : x ∈ thereT n l ↔ x < n ∧ (x : Int) ∈ l := by
 unfold thereT; simp
theorem there_rises (n : Nat) (l : List Int) : (thereT n l).Pairwise (· < ·) := List.Pairwise.filter _ List.pairwise_lt_range
theorem zs_rises {l : List Nat} (h : l.Pairwise (· < ·)) : (zs l).Pairwise (· < ·) := by
 unfold zs
 rw [List.pairwise_map]
 exact h.imp fun hx => by omega
theorem riseN_ext : ∀ {a b : List Nat}, a.Pairwise (· < ·) → b.Pairwise (· < ·) → (∀ x, x ∈ a ↔ x ∈ b) → a = b
 | [], [], _, _, _ => rfl
 | [], y :: s, _, _, h => absurd ((h y).2 (by simp)) (by simp)
 | x :: r, [], _, _, h => absurd ((h x).1 (by simp)) (by simp)
 | x :: r, y :: s, ha, hb, h => by
  rw [List.pairwise_cons] at ha hb
  have hxy : x = y := by
   have h1 : x = y ∨ x ∈ s := by simpa using (h x).1 (by simp)
   have h2 : y = x ∨ y ∈ r := by simpa using (h y).2 (by simp)
   rcases h1 with h1 | h1
   · exact h1
   · rcases h2 with h2 | h2
     · exact h2.symm
     · have := ha.1 y h2; have := hb.1 x h1; omega
  subst hxy
  rw [riseN_ext ha.2 hb.2 fun z => ?_]
  constructor
  · intro hz
    have hlt := ha.1 z hz
    rcases List.mem_cons.1 ((h z).1 (List.mem_cons_of_mem _ hz)) with e | e
    · omega
    · exact e
  · intro hz
    have hlt := hb.1 z hz
    rcases List.mem_cons.1 ((h z).2 (List.mem_cons_of_mem _ hz)) with e | e
    · omega
    · exact e
def BackQ (Q : List (List Nat)) : Prop := ∀ i, ∀ p ∈ par Q i, p < i
theorem back_of {P : List (List Int)} {n : Nat} (h : backT P n = true) : insB P.length P = true ∧ BackQ (toQ P) ∧ P.length = n := by
 unfold backT at h
 rw [Bool.and_eq_true, decide_eq_true_eq, List.all_eq_true] at h
 obtain ⟨h1, h2⟩ := h
 have h3 : ∀ i, i < P.length → ∀ x ∈ P.getD i [], 0 ≤ x ∧ x < (i : Int) := fun i hi x hx => by
  have := h1 i (List.mem_range.2 hi)
  unfold belowT at this
  have := List.all_eq_true.1 this x hx
  simpa using this
 have hI : insB P.length P = true := by
  unfold insB
  rw [List.all_eq_true]
  intro r hr
  obtain ⟨i, hi, rfl⟩ := List.getElem_of_mem hr
  unfold rowB
  rw [List.all_eq_true]
  intro x hx
  have := h3 i hi x (by rw [getD_in hi]; exact hx)
  simp
  omega
 refine ⟨hI, fun i p hp => ?_, h2⟩
 by_cases hi : i < P.length
 · have hz : (p : Int) ∈ zs (par (toQ P) i) := (zs_mem _ _).2 hp
   rw [par_toQ hI] at hz
   have := (h3 i hi _ hz).2
   omega
 · unfold par toQ at hp
   rw [List.getD_eq_getElem?_getD, List.getElem?_eq_none (by simpa using hi)] at hp
   cases hp
inductive Lead (Q : List (List Nat)) (S : List Nat) : Nat → Prop
 | one {k i : Nat} : k ∈ S → i ∈ par Q k → Lead Q S i
 | more {k i : Nat} : Lead Q S k → i ∈ par Q k → Lead Q S i
theorem ch_iff {Q : List (List Nat)} {S : List Nat} {i : Nat} : Lead Q S i ↔ ∃ k, (k ∈ S ∨ Lead Q S k) ∧ i ∈ par Q k :=
 ⟨fun h => by cases h with | one h1 h2 => exact ⟨_, .inl h1, h2⟩ | more h1 h2 => exact ⟨_, .inr h1, h2⟩, fun ⟨k, h1, h2⟩ => h1.elim (fun h => .one h h2) fun h => .more h h2⟩
theorem ch_lt {Q : List (List Nat)} {S : List Nat} {n : Nat} (hQ : BackQ Q) (hS : ∀ x ∈ S, x < n) {i : Nat} (h : Lead Q S i) : i < n := by
 induction h with
 | one h1 h2 => exact Nat.lt_trans (hQ _ _ h2) (hS _ h1)
 | more _ h2 ih => exact Nat.lt_trans (hQ _ _ h2) ih
def Gm (Q : List (List Nat)) (S : List Nat) (m i : Nat) : Prop := ∃ k, m ≤ k ∧ (k ∈ S ∨ Lead Q S k) ∧ i ∈ par Q k
theorem gm_top {Q : List (List Nat)} {S : List Nat} {n : Nat} (hQ : BackQ Q) (hS : ∀ x ∈ S, x < n) (i : Nat) : ¬ Gm Q S n i := fun ⟨k, h1, h2, _⟩ => by
 have : k < n := h2.elim (hS k) (ch_lt hQ hS)
 omega
theorem gm_self {Q : List (List Nat)} {S : List Nat} (hQ : BackQ Q) (m : Nat) : Gm Q S (m + 1) m ↔ Lead Q S m :=
 ⟨fun ⟨k, _, h2, h3⟩ => ch_iff.2 ⟨k, h2, h3⟩, fun h => by
  obtain ⟨k, h2, h3⟩ := ch_iff.1 h
  exact ⟨k, hQ _ _ h3, h2, h3⟩⟩
theorem gm_step {Q : List (List Nat)} {S : List Nat} (m i : Nat) : Gm Q S m i ↔ Gm Q S (m + 1) i ∨ ((m ∈ S ∨ Lead Q S m) ∧ i ∈ par Q m) :=
 ⟨fun ⟨k, h1, h2, h3⟩ => by
  rcases Nat.lt_or_ge m k with h | h
  · exact .inl ⟨k, h, h2, h3⟩
  · obtain rfl : k = m := by omega
    exact .inr ⟨h2, h3⟩, fun h => h.elim (fun ⟨k, h1, h2, h3⟩ => ⟨k, by omega, h2, h3⟩) fun ⟨h2, h3⟩ => ⟨m, Nat.le_refl _, h2, h3⟩⟩
theorem gm_all {Q : List (List Nat)} {S : List Nat} (i : Nat) : Gm Q S 0 i ↔ Lead Q S i :=
 ⟨fun ⟨k, _, h2, h3⟩ => ch_iff.2 ⟨k, h2, h3⟩, fun h => by
  obtain ⟨k, h2, h3⟩ := ch_iff.1 h
  exact ⟨k, Nat.zero_le _, h2, h3⟩⟩
open Classical in
noncomputable def chT (Q : List (List Nat)) (S : List Nat) : List Nat := (List.range Q.length).filter fun i => decide (Lead Q S i)
theorem par_lt_len {Q : List (List Nat)} {i x : Nat} (h : x ∈ par Q i) : i < Q.length := by
 refine Classical.byContradiction fun hn => ?_
 unfold par at h
 rw [List.getD_eq_getElem?_getD, List.getElem?_eq_none (by omega)] at h
 cases h
theorem ch_len {Q : List (List Nat)} {S : List Nat} {i : Nat} (hQ : BackQ Q) (h : Lead Q S i) : i < Q.length := by
 obtain ⟨k, _, h3⟩ := ch_iff.1 h
 exact Nat.lt_trans (hQ _ _ h3) (par_lt_len h3)
theorem cht_mem {Q : List (List Nat)} {S : List Nat} {i : Nat} (hQ : BackQ Q) : i ∈ chT Q S ↔ Lead Q S i := by
 unfold chT
 simp only [List.mem_filter, List.mem_range, decide_eq_true_eq]
 exact ⟨fun h => h.2, fun h => ⟨ch_len hQ h, h⟩⟩
theorem cht_rises (Q : List (List Nat)) (S : List Nat) : (chT Q S).Pairwise (· < ·) := List.Pairwise.filter _ List.pairwise_lt_range
end Go.Proofs.YtimhpglfolbomaaGreat.Od
