/-
  Deeds and pieces that came in, as the walks read them.
  A sender's Out.
  The library's slices.Delete, laid at this program by the kit's own tool.
  A sender's Ack.
  The chapter's examples.
  A sender, a receiver, and all that was pushed, sent, given back, told.
  The link's step: kind 3.
  The link's step: kind 2.
  The link's step: kind 0.
  The link's step: kind 1.
  The link's step: kind 4 and none.
  What a receiver tells, as lists; what holds of a link, deed by deed.
  A link that is begun, and its steps.
  WindowFifo, walked.
  Rounds: all that is under way arrives, and what is wanted is acknowledged; as lists.
  The document's receiver: as it is read, and its find.
  The document's sender: as it is read, and its end and Ack; bytes copied to a new row.
-/
import Derived.Test.YtnhgjgoldcplnaaDH02
import Derived.Test.YtnhgjgoldcplnaaChecked
import Derived.ProofKit
import Derived.SizedLaws
import Derived.Deep.Strs
import Derived.Deep.Slices
import Derived.Deep.Grids
import Derived.Shelf.SlGeneric
import Derived.Ground.SlgnProg
import Derived.Shelf.SlicesE.Delete
import Derived.Test.YtnhgjgoldcplnaaProg
set_option maxRecDepth 100000
set_option maxHeartbeats 16000000
namespace Go.Proofs.Ytnhgjgoldcplnaa
open Go.ChangeShapes Go.WideShapes Go.ChangeAt Go.RowKit
theorem Try.own : ownKnob Try.prog.godebug = none := by kernel_rfl
theorem Try.laidOut : laidOutB Try.prog = true := by kernel_rfl
theorem Try.cells2 : Try.prog.cellsOf 2 = 1 := by kernel_rfl
theorem Try.cells5 : Try.prog.cellsOf 5 = 1 := by kernel_rfl
theorem Try.cellsB : Try.prog.cellsOf 37 = 1 := by kernel_rfl
theorem cell_lt {w : World} {a : Addr} {v : Value} (h : w.cell? a = some v) : a.block < w.heap.size := by
 rcases Nat.lt_or_ge a.block w.heap.size with h' | h'
 · exact h'
 · simp [World.cell?, Array.getElem?_eq_none h'] at h
theorem cell_none {w : World} {b o : Nat} {sp : Option Nat} {v : Value} (h : w.cell? ⟨b, o, sp⟩ = some v) : sp = none := by
 cases sp with
 | none => rfl
 | some x =>
  unfold World.cell? at h
  split at h <;> simp at h
theorem sl_of {τ : Type} {E : El τ} {D : Nat → Prop} {w : World} {a : Addr} {c : Nat} {L : List τ} (hc : L.length ≤ c) (h : ∀ j x, L[j]? = some x → ∃ cs, E.enc D w x cs ∧ ∀ r u, cs[r]? = some u → w.cell? ⟨a.block, a.off + j * E.sz + r, a.spot⟩ = some u) : Sl E (· < w.heap.size) D w (.slice (some a) L.length c) L := by
 obtain ⟨F, hF⟩ : ∃ F : Nat → List Value, ∀ j x, L[j]? = some x → E.enc D w x (F j) ∧ ∀ r u, (F j)[r]? = some u → w.cell? ⟨a.block, a.off + j * E.sz + r, a.spot⟩ = some u :=
  ⟨fun j => if hj : j < L.length then Classical.choose (h j L[j] (List.getElem?_eq_getElem hj)) else [], fun j x hx => by
   have hj := (List.getElem?_eq_some_iff.1 hx).1
   have e : L[j] = x := (List.getElem?_eq_some_iff.1 hx).2
   subst e
   simp only [dif_pos hj]
   exact Classical.choose_spec (h j L[j] (List.getElem?_eq_getElem hj))⟩
 have hall : ∀ (n : Nat) (M : List τ), (∀ j x, M[j]? = some x → E.enc D w x (F (n + j))) → All2 (E.enc D w) M ((List.range M.length).map fun j => F (n + j)) := by
  intro n M
  induction M generalizing n with
  | nil => intro _; exact trivial
  | cons x M ih =>
   intro hM
   rw [List.length_cons, List.range_succ_eq_map, List.map_cons, List.map_map]
   refine ⟨hM 0 x rfl, ?_⟩
   have := ih (n + 1) (fun j y hj => by have := hM (j + 1) y (by simpa using hj); rw [show n + 1 + j = n + (j + 1) by omega]; exact this)
   have e : ((fun j => F (n + j)) ∘ Nat.succ) = fun j => F (n + 1 + j) := by funext j; show F (n + (j + 1)) = _; congr 1; omega
   rw [e]
   exact this
 have hA := hall 0 L (fun j x hj => by rw [Nat.zero_add]; exact (hF j x hj).1)
 refine ⟨_, c, _, rfl, hc, fun h => (by cases h), hA, fun hn => ?_⟩
 have hpos : 0 < L.length := List.length_pos_iff.2 hn
 have h0 := hF 0 L[0] (List.getElem?_eq_getElem hpos)
 have hl0 := E.len h0.1
 have hp := E.pos
 have hc0 := h0.2 0 ((F 0)[0]'(by omega)) (List.getElem?_eq_getElem (by omega))
 obtain ⟨b, o, sp⟩ := a
 obtain rfl := cell_none hc0
 refine ⟨b, o, rfl, cell_lt hc0, fun j u hj => ?_⟩
 have hfl := flat_len _ (El.lens hA)
 have hjl : j < L.length * E.sz := by
  have := (List.getElem?_eq_some_iff.1 hj).1
  rw [hfl, List.length_map, List.length_range] at this
  exact this
 have hq : j / E.sz < L.length := Nat.div_lt_of_lt_mul (by rw [Nat.mul_comm]; exact hjl)
 have hr : j % E.sz < E.sz := Nat.mod_lt _ hp
 have hjj : j / E.sz * E.sz + j % E.sz = j := by rw [Nat.mul_comm]; exact Nat.div_add_mod j E.sz
 have hat := flat_at _ (El.lens hA) (j / E.sz) (F (0 + j / E.sz)) (j % E.sz) (by rw [List.getElem?_map, List.getElem?_range hq]; rfl) hr
 rw [hjj, Nat.zero_add] at hat
 have := (hF (j / E.sz) L[j / E.sz] (List.getElem?_eq_getElem hq)).2 (j % E.sz) u (by rw [← hat]; exact hj)
 rw [Nat.add_assoc, hjj] at this
 exact this
section
variable {H : Type} {enc : TypeId × Value → H} {W : World} {fuel : Nat} {cs : List Value} {x : DataW H × List MemPlace}
theorem view_row {τ : Type} {E : El τ} {D : Nat → Prop} {t : TypeId} {R : τ → Prop} (hsz : Try.prog.cellsOf E.ty = E.sz) (ht : Try.prog.underlying t = some (.slice E.ty))
    (hel : ∀ n cs y, DataW.trod enc Try.prog W 0 (fun _ => true) true n E.ty cs = some y → ∃ z, E.enc D W z cs ∧ R z) (h : DataW.trod enc Try.prog W 0 (fun _ => true) true fuel t cs = some x) :
    ∃ p L c, cs = [.slice p L.length c] ∧ Sl E (· < W.heap.size) D W (.slice p L.length c) L ∧ L.length ≤ 9223372036854775807 ∧ ∀ z ∈ L, R z := by
 rcases Go.Deep.open_slice ht h with ⟨rfl, hx⟩ | ⟨a, len, cap, m, n, Df, Pl, rfl, _, hl, hm, hmm, hx, hcell⟩
 · exact ⟨none, [], 0, rfl, Sl.nil _ _ _ _, by simp, fun z hz => by simp at hz⟩
 · simp only [if_true] at hmm
   subst hmm
   rw [hsz] at hcell
   have hm' : m ≤ 9223372036854775807 := hm
   have key0 : ∀ i, i < m → ∃ z cs', E.enc D W z cs' ∧ R z ∧ ∀ r u, cs'[r]? = some u → W.cell? ((a.add (i * E.sz)).add r) = some u := by
    intro i hi
    obtain ⟨cs', hcs', htr⟩ := hcell i hi
    obtain ⟨z, hz, hr⟩ := hel n cs' _ htr
    obtain ⟨_, _, hc⟩ := World.cells?_some hcs'
    refine ⟨z, cs', hz, hr, fun r u hu => ?_⟩
    have hrl : r < E.sz := by rw [← E.len hz]; exact (List.getElem?_eq_some_iff.1 hu).1
    have g := hc r hrl
    rw [hu] at g
    exact g
   have hlen : ∀ F : Nat → τ, ((List.range len).map F).length = len := fun F => by simp
   rcases Nat.eq_zero_or_pos m with hm0 | hmp
   · obtain rfl : len = 0 := by omega
     exact ⟨some a, [], m, rfl, sl_of (L := []) (by simp) (fun j x hj => by simp at hj), by simp, fun z hz => by simp at hz⟩
   · have ha : a.spot = none := by
       obtain ⟨z, cs', hz, _, hc⟩ := key0 0 hmp
       have hl0 := E.len hz
       have hp := E.pos
       have h0 := hc 0 (cs'[0]'(by omega)) (List.getElem?_eq_getElem (by omega))
       have e0 : (a.add (0 * E.sz)).add 0 = a := by simp [Addr.add]
       rw [e0] at h0
       obtain ⟨b, o, sp⟩ := a
       exact cell_none h0
     obtain ⟨b, o, sp⟩ := a
     simp only at ha
     subst ha
     have key : ∀ i, i < m → ∃ z : τ, R z ∧ ∃ cs', E.enc D W z cs' ∧ ∀ r u, cs'[r]? = some u → W.cell? ⟨b, o + i * E.sz + r, none⟩ = some u := fun i hi => by
      obtain ⟨z, cs', h1, h2, h3⟩ := key0 i hi
      refine ⟨z, h2, cs', h1, fun r u hu => ?_⟩
      have := h3 r u hu
      rw [add_flat, add_flat] at this
      exact this
     obtain ⟨z0, _⟩ := key 0 hmp
     obtain ⟨F, hF⟩ : ∃ F : Nat → τ, ∀ i, i < m → R (F i) ∧ ∃ cs', E.enc D W (F i) cs' ∧ ∀ r u, cs'[r]? = some u → W.cell? ⟨b, o + i * E.sz + r, none⟩ = some u :=
      ⟨fun i => if h : i < m then Classical.choose (key i h) else z0, fun i hi => by simp only [dif_pos hi]; exact Classical.choose_spec (key i hi)⟩
     refine ⟨some ⟨b, o, none⟩, (List.range len).map F, m, by rw [hlen], sl_of (by rw [hlen]; exact hl) fun j y hj => ?_, by rw [hlen]; omega, fun z hz => ?_⟩
     · have hjl : j < len := by have := (List.getElem?_eq_some_iff.1 hj).1; rw [hlen] at this; exact this
       rw [List.getElem?_map, List.getElem?_range hjl] at hj
       cases hj
       exact (hF j (by omega)).2
     · obtain ⟨i, hi, rfl⟩ := List.mem_map.1 hz
       exact (hF i (by have := List.mem_range.1 hi; omega)).1
theorem bytes_of (h : DataW.trod enc Try.prog W 0 (fun _ => true) true fuel 37 cs = some x) : ∃ xs u, cs = [u] ∧ Sl EU (· < W.heap.size) (· < W.heap.size) W u xs ∧ xs.length ≤ 9223372036854775807 := by
 obtain ⟨p, L, c, e, h1, h2, _⟩ := view_row (E := EU) (D := (· < W.heap.size)) (R := fun _ => True) Try.cells5 Try.underlying37 (fun n cs y hy => by
  obtain ⟨k, e, _, hw⟩ := DataW.trod_int Try.underlying5 hy
  have h1 : IntKind.u8.min = 0 := rfl
  have h2 : IntKind.u8.max = 255 := rfl
  simp only [Lit.wf, Bool.and_eq_true, decide_eq_true_eq] at hw
  exact ⟨k, ⟨e, by omega, by omega⟩, trivial⟩) h
 exact ⟨L, _, e, h1, h2⟩
theorem Try.cellsP : Try.prog.cellsOf 52 = 2 := by kernel_rfl
theorem piece_of (h : DataW.trod enc Try.prog W 0 (fun _ => true) true fuel 52 cs = some x) : ∃ z : Int × List Int, EP.enc (· < W.heap.size) W z cs ∧ wf64 z.1 ∧ z.2.length ≤ 9223372036854775807 := by
 obtain ⟨xs, n, _, rfl, hl, hlen, hf⟩ := DataW.trod_struct Try.underlying52 h
 rw [Try.cellsP] at hl
 match cs, hl, xs, hlen with
 | [c0, c1], _, [y0, y1], _ =>
  have f0 : DataW.trod enc Try.prog W 0 (fun _ => true) true n 2 (([c0, c1].drop 0).take (Try.prog.cellsOf 2)) = some y0 := hf 0 _ rfl
  have f1 : DataW.trod enc Try.prog W 0 (fun _ => true) true n 37 (([c0, c1].drop 1).take (Try.prog.cellsOf 37)) = some y1 := hf 1 _ rfl
  rw [Try.cells2] at f0
  rw [Try.cellsB] at f1
  obtain ⟨k, e0, _, hw⟩ := DataW.trod_int Try.underlying2 f0
  obtain ⟨zs, u, e1, hu, hz⟩ := bytes_of f1
  cases e0; cases e1
  have h1 : IntKind.i64.min = -9223372036854775808 := rfl
  have h2 : IntKind.i64.max = 9223372036854775807 := rfl
  simp only [Lit.wf, Bool.and_eq_true, decide_eq_true_eq] at hw
  exact ⟨(k, zs), ⟨_, rfl, hu⟩, by unfold wf64; simp only; omega, hz⟩
end
section
variable {H : Type} {enc : TypeId × Value → H} {W : World} {base : Nat} {v : Value} {d : DataW H} {p0 : List MemPlace}
theorem view_pieces (hval : Value.okWide Try.prog W .any base 40 v) (h0 : DataW.Trod enc Try.prog W 0 (fun _ => true) true 40 v d p0) :
    ∃ l, Sl EP (· < W.heap.size) (· < W.heap.size) W v l ∧ l.length ≤ 9223372036854775807 ∧ ∀ x ∈ l, wf64 x.1 ∧ x.2.length ≤ 9223372036854775807 := by
 obtain ⟨a0, len, cap, rfl⟩ := okWide_slice Try.underlying40 hval
 obtain ⟨fuel, hf⟩ := h0
 obtain ⟨p, l, c, hcs, h1, h2, h3⟩ := view_row (E := EP) (D := (· < W.heap.size)) (R := fun x : Int × List Int => wf64 x.1 ∧ x.2.length ≤ 9223372036854775807) Try.cellsP Try.underlying40 (fun n cs y hy => piece_of hy) hf
 simp [Value.cells] at hcs
 obtain ⟨rfl, rfl, rfl⟩ := hcs
 exact ⟨l, h1, h2, h3⟩
theorem view_int {t : TypeId} (ht : Try.prog.underlying t = some (.int .i64)) (hval : Value.okWide Try.prog W .any base t v) (h0 : DataW.Trod enc Try.prog W 0 (fun _ => true) true t v d p0) :
    ∃ n, v = .int .i64 n ∧ d = .lit (.int .i64 n) ∧ p0 = [] ∧ (Lit.int .i64 n).wf = true := by
 obtain ⟨fuel, hf⟩ := h0
 obtain ⟨n, hc, hx, hw⟩ := DataW.trod_int ht hf
 simp only [Prod.mk.injEq] at hx
 refine ⟨n, ?_, hx.1, hx.2, hw⟩
 cases v <;> simp [Value.cells] at hc ⊢ <;> first | exact hc | (simp [Value.okWide, ht, Cell.okWide, Cell.ok] at hval)
end
end Go.Proofs.Ytnhgjgoldcplnaa
namespace Go.Proofs.Ytnhgjgoldcplnaa
open Go.RowKit Go.Maps
section
variable {i : Nat} {col col' : Nat → Nat} {w w' : World} {b : Nat} {W Q : Int} {L : List (List Int)} {d : Nat}
theorem und_le (W : Int) (L : List (List Int)) (d : Nat) : undT W L d ≤ L.length - d := Nat.min_le_right _ _
theorem out_any (h : PS i col w b W Q L d) (hs : ∀ x ∈ L, x.length ≤ 2000000) : Calls Try.prog 18 #[.pointer (some ⟨b, 0, none⟩)] w fun e w' => Below w.heap.size w w' ∧ ∃ v, e = .returned v ∧ Vw EP (paint col w none 0) w' v (outK L d (undT W L d)) := by
 obtain ⟨q, cq, h1, h2, h3⟩ := h.view
 have HUW : Hid (∀ n, Calls Try.prog 32 #[.pointer (some ⟨b, 0, none⟩)] (w.drewN n) fun e w' => e = .returned (.int .i64 (undT W L d : Int)) ∧ ∃ m, w' = (w.drewN n).drewN m) := fun n => underWay_any (h.ev (Ev.drewN (fun _ => False) col w n) (fun h => h) fun h => h)
 have hn := und_le W L d
 have hf := h.few
 have hle := h.le
 have hbl := h.ob.2
 obtain ⟨p, c, e, k1, k2, k3, k4⟩ := h2.sl.rows
 rw [List.length_drop] at e
 cases e
 rw [List.length_drop] at k1
 have HFIN : Hid (∀ w' v, Below w.heap.size w w' → Nr EP (Cl col 0 w) w w' v (outK L d (undT W L d)) → Below w.heap.size w w' ∧ ∃ v', Ending.returned v = .returned v' ∧ Vw EP (paint col w none 0) w' v' (outK L d (undT W L d))) := fun w' v hb hr => ⟨hb, v, rfl, hr.vw hb.size (fun k hk => paint_old hk) paint_none⟩
 cases q with
 | none =>
  obtain rfl : cq = 0 := k2 rfl
  have hn0 : undT W L d = 0 := by omega
  have hl0 : L.length - d = 0 := by omega
  have HF2 : Hid (∀ w', Below w.heap.size w w' → Below w.heap.size w w' ∧ ∃ v', Ending.returned (.slice none 0 0) = .returned v' ∧ Vw EP (paint col w none 0) w' v' (outK L d (undT W L d))) := fun w' hb => HFIN.out w' _ hb (by rw [hn0]; exact Nr.nil _ _ _ _)
  rw [hn0] at HUW
  rw [hl0] at h1
  have hc3 := cell_row (cur := [_, _, _, _]) h1 3 _ rfl
  clear h h1 h2 h3 k4 hs hn0 hl0 HFIN
  go_enter Try.func18, Try.ntmps18
  go_upto_region 4 with fail
  go_quiet ((go_at_call 32; exact Calls.quiet_of (HUW.out _)))
  go_wp2
  go_loopw [3, 16] (fun ov iv wr => ov = .slice none 0 0 ∧ iv = .int .i64 0 ∧ Below w.heap.size w wr) (fun _ iv _ => 0)
  case atStart => exact ⟨rfl, rfl, by exact below_drewN (Below.refl _ _) _⟩
  case round =>
   obtain ⟨rfl, rfl, hbr⟩ := hrel
   go_wp2
   go_ret
   exact HF2.out _ hbr
 | some a =>
  obtain ⟨sb, so, rfl⟩ : ∃ sb so, a = ⟨sb, so, none⟩ := by
   by_cases hd0 : L.drop d = []
   · rcases h2 with ⟨cs, _, h5, _⟩
     rw [List.length_drop] at h5
     rcases h5.2 with ⟨e, _⟩ | ⟨g, cap, cur, e, _⟩
     · cases e
     · cases e; exact ⟨_, _, rfl⟩
   · obtain ⟨b', o', e, _⟩ := k3 hd0
     cases e
     exact ⟨_, _, rfl⟩
  have hsb := h2.own sb rfl
  have HK : Hid (∀ X, Below w.heap.size w X → ∀ k, k < undT W L d → ∃ u, X.cell? ⟨sb, so + k, none⟩ = some u ∧ Sl EU (Cl col 0 w) (Cl col 0 w) X u (L.getD (d + k) [])) := fun X hX k hk => by
   obtain ⟨u, hc, hu⟩ := k4 sb so rfl k _ (getD_drop L d k (by omega))
   exact ⟨u, (World.cell?_of_block (a := ⟨sb, so + k, none⟩) (hX.block sb hsb.2)).trans hc, hu.carry (Same.of_below hX fun k hk => hk.2) (Same.of_below hX fun k hk => hk.2) (fun _ h => h) fun _ h => h⟩
  have HSM : Hid (∀ k, k < undT W L d → (L.getD (d + k) []).length ≤ 2000000) := fun k hk => hs _ (by rw [List.getD_eq_getElem?_getD, List.getElem?_eq_getElem (by omega)]; exact List.getElem_mem _)
  have HC : Hid (w.heap[b]? = some (.cells #[.int .i64 W, .int .i64 Q, .int .i64 (d : Int), .slice (some ⟨sb, so, none⟩) (L.length - d) cq] 64)) := h1
  have hc3 := cell_row (cur := [_, _, _, _]) h1 3 _ rfl
  obtain ⟨n, hnn⟩ : ∃ n, undT W L d = n := ⟨_, rfl⟩
  obtain ⟨nl, hnl⟩ : ∃ nl, L.length - d = nl := ⟨_, rfl⟩
  rw [hnn] at HUW hn HK HSM HFIN ⊢
  rw [hnl] at hn HC hc3 k1
  have hnl2 : nl ≤ 100000 := by omega
  have hd2 : d ≤ 100000 := by omega
  clear h h1 h2 h3 k2 k3 k4 hs hnl hnn hsb
  have HFN : Hid (∀ k, outK L d (k + 1) = outK L d k ++ [(((d + k : Nat) : Int), L.getD (d + k) [])]) := outK_snoc L d
  go_enter Try.func18, Try.ntmps18
  go_upto_region 4 with fail
  go_quiet ((go_at_call 32; exact Calls.quiet_of (HUW.out _)))
  go_wp2
  clear HUW
  go_loopw [3, 16] (fun ov iv wr => ∃ k : Nat, k ≤ n ∧ iv = .int .i64 (k : Int) ∧ Below w.heap.size w wr ∧ Hid (Nr EP (Cl col 0 w) w wr ov (outK L d k))) (fun _ iv _ => n - (intOf iv).toNat)
  case atStart => exact ⟨0, Nat.zero_le _, rfl, by exact below_drewN (Below.refl _ _) _, Nr.nil _ _ _ _⟩
  case round =>
   obtain ⟨k, hk, rfl, hbr, HRW⟩ := hrel
   by_cases hkn : k < n
   · obtain ⟨u, hcu, hku⟩ := HK.out wr hbr k hkn
     have HDR : Hid (Below wr.heap.size wr wr.drew) := below_drewN (Below.refl _ _) 1
     have hb1 : Below w.heap.size w wr.drew := belowP hbr HDR.out
     have hC1 := (hb1.block b hbl).trans HC.out
     have hown := own_any (hku.carry (O' := Cl col 0 w) (D' := Cl col 0 w) (w' := wr.drew) (Same.of_below HDR.out fun k hk => by have := hk.2; have := hbr.size; omega) (Same.of_below HDR.out fun k hk => by have := hk.2; have := hbr.size; omega) (fun _ h => h) fun _ h => h) (fun k hk => Nat.lt_of_lt_of_le hk.2 hb1.size) (HSM.out k hkn)
     obtain ⟨pk, ck, rfl⟩ := hku.lenv
     obtain ⟨mk, hmk⟩ : ∃ mk, (L.getD (d + k) []).length = mk := ⟨_, rfl⟩
     have HSL : Hid (mk = mk) := rfl
     rw [hmk] at hown hcu
     clear hku hmk HSL
     obtain ⟨qo, co, hqo⟩ := HRW.out.slice
     rw [outK_len] at hqo
     subst hqo
     go_upto_region 7 with fail
     refine wp_region_J 12 (fun X => X.heap[b]? = some (.cells #[.int .i64 W, .int .i64 Q, .int .i64 (d : Int), .slice (some ⟨sb, so, none⟩) nl cq] 64)) ?_
     change wpJ _ _ _ _ _ _ _ _ _ (World.drew _)
     generalize hw1 : wr.drew = w1 at *
     clear hw1
     refine wpJ_q (i := 0) (d := some 21) (v := .slice qo k co) rfl ?_
     refine wpJ_q (i := 1) (d := some 22) (v := .pointer (some ⟨b, 0, none⟩)) rfl ?_
     refine wpJ_q (i := 2) (d := some 23) (v := .pointer (some ⟨b, 0, none⟩)) rfl ?_
     refine wpJ_q (i := 3) (d := some 24) (v := .pointer (some ⟨b, 2, none⟩)) rfl ?_
     refine wpJ_r (i := 4) (d := some 25) (v := .int .i64 (d : Int)) rfl (by intro wq hq; have g := cell_row (cur := [_, _, _, _]) hq 2 _ rfl; go_simp; first | done | with_reducible rfl) ?_
     refine wpJ_q (i := 5) (d := some 26) (v := .int .i64 (k : Int)) rfl ?_
     refine wpJ_r (i := 6) (d := some 27) (v := .int .i64 ((d : Int) + (k : Int))) rfl (by intro wq hq; have g := IntWalk.i64_in ((d : Int) + (k : Int)) ⟨by omega, by omega⟩; go_simp; first | done | with_reducible rfl) ?_
     refine wpJ_q (i := 7) (d := some 28) (v := .slice pk mk ck) rfl ?_
     refine wpJ_do (i := 8) (fun _ => hC1) (by kernel_rfl) rfl (by rfl) ?_
     intro K8 hK8
     go_simp
     go_wp2_with (go_at_call 31; refine hown.mono ?_; rintro e w2 ⟨hb2, u2, rfl, hu⟩)
     obtain ⟨pu, cu, hpu⟩ := (hu (fun _ => True)).lenv
     have HU : Hid (∀ D', Sl EU (New w1 w2) D' w2 u2 (L.getD (d + k) [])) := hu
     obtain ⟨ml, hml⟩ : ∃ ml, (L.getD (d + k) []).length = ml := ⟨_, rfl⟩
     rw [hml] at hpu
     subst hpu
     have hC2 := (hb2.block b (by have := hb1.size; omega)).trans hC1
     clear hu hml
     refine wpJ_q (i := 9) (d := some 30) (v := .agg #[.int .i64 ((d : Int) + (k : Int)), .slice pu ml cu]) rfl ?_
     refine wpJ_do (i := 10) (fun _ => hC2) (by kernel_rfl) rfl (by rfl) ?_
     intro K10 hK10
     go_simp
     refine hK10 _ _ ?_
     have hb23 : Below w2.heap.size w2 (w2.alloc (.cells #[.int .i64 ((d : Int) + (k : Int)), .slice pu ml cu] 52)) := (Below.refl _ _).alloc (Nat.le_refl _) _
     have HONE : Hid (Sl EP (fun k => k = w2.heap.size) (New w1 w2) (w2.alloc (.cells #[.int .i64 ((d : Int) + (k : Int)), .slice pu ml cu] 52)) (.slice (some ⟨w2.heap.size, 0, none⟩) 1 1) [(((d + k : Nat) : Int), L.getD (d + k) [])]) := Sl.one (E := EP) (cs := [.int .i64 ((d : Int) + (k : Int)), .slice pu ml cu]) ⟨_, by rw [Int.natCast_add], HU.out _⟩ fun k hk => hk.2
     have hC3 := (hb23.block b (by have := hb1.size; have := hb2.size; omega)).trans hC2
     have hb13 := belowP hb2 hb23
     have HR3 := HRW.out.below (belowP HDR.out hb13) (fun _ hk => hk.2) hbr.size
     generalize hw3 : w2.alloc (.cells #[.int .i64 ((d : Int) + (k : Int)), .slice pu ml cu] 52) = w3 at *
     clear hw3
     refine wpJ_do (i := 11) (fun _ => hC3) (by kernel_rfl) rfl (by rfl) ?_
     intro K11 hK11
     refine wp_app (.tmp 21) (.tmp 31) 40 (some 32) rfl rfl Try.underlying40 rfl HR3 rfl HONE.out (by rw [outK_len]; simp only [List.length_singleton]; omega) ?_
     rintro v' w4 hg hat ⟨q', c', hv'⟩ HD
     obtain ⟨nn, hnn⟩ : ∃ nn, (outK L d k ++ [(((d + k : Nat) : Int), L.getD (d + k) [])]).length = nn := ⟨_, rfl⟩
     rw [hnn] at hv'
     subst hv'
     clear hnn
     have hb03 := belowP hb1 hb13
     obtain ⟨hr4, hb34⟩ := HR3.app hb03.size hg hat (fun _ hk => hk.2) HD.out (fun j hj => ⟨.inr ⟨Nat.le_trans hb1.size hj.1, Nat.lt_of_lt_of_le hj.2 hb23.size⟩, fun e => by have := HRW.out.lt j e; have := HDR.out.size; have := hj.1; omega⟩)
     have hb5 : Below w.heap.size w w4 := hb03.trans hb34
     have hr5 : Hid (Nr EP (Cl col 0 w) w w4 (.slice q' nn c') (outK L d (k + 1))) := by show Nr _ _ _ _ _ _; rw [HFN.out]; exact hr4
     have hC4 := (hb34.block b hbl).trans hC3
     clear HD hg hat hr4 HR3 HONE HU
     refine hK11 _ _ ?_
     refine wpJ_fr ?_
     refine wpJ_do (i := 12) (fun _ => hC4) (by kernel_rfl) rfl (by rfl) ?_
     intro K12 hK12
     go_simp
     refine hK12 _ _ ?_
     refine wpJ_end ?_
     go_wp2
     go_roundw
     case rel => exact ⟨k + 1, by omega, by go_num, hb5, hr5⟩
     case measure => simp [intOf]; omega
   · obtain rfl : k = n := by omega
     go_wp2
     go_ret
     exact HFIN.out _ _ hbr HRW.out
end
end Go.Proofs.Ytnhgjgoldcplnaa
namespace Go.Proofs
open Go.Shelf
def Try.laysDel_ren : Go.Shelf.Ren := ⟨fun | 45 => 33 | n => n, fun | 22 => 31 | 23 => 37 | 3 => 3 | 4 => 4 | 0 => 0 | n => n, fun | n => n⟩
theorem Try.laysDel : Go.Proofs.SlLaysE.n45 Try.prog Try.laysDel_ren := {
 mixed := by kernel_rfl
 f45 := ⟨Try.f33.name, by decide, Try.func33.trans (congrArg some (by kernel_rfl))⟩
 t0 := Try.underlying0
 a0 := Try.isAgg0
 z0 := Try.sizeOf0
 v0 := Try.zeroValue0
 t3 := Try.underlying3
 a3 := Try.isAgg3
 z3 := Try.sizeOf3
 v3 := Try.zeroValue3
 t4 := Try.underlying4
 a4 := Try.isAgg4
 z4 := Try.sizeOf4
 v4 := Try.zeroValue4
 t22 := Try.underlying31
 a22 := Try.isAgg31
 z22 := Try.sizeOf31
 v22 := Try.zeroValue31
 a23 := Try.isAgg37
 z23 := Try.sizeOf37 }
open Go.RowKit Go.Lib Go.Sort in
theorem Try.slices_Delete {α : Type} [Inhabited α] (enc : α → Value) (h1 : OneCell enc) (zr : α) (v23 : ∀ w, (zeroValue 37).run Try.prog w = .ok (enc zr) w) (i0 : TypeInfo) (hi0 : Try.prog.info? 37 = some i0) (hz1 : i0.size = 1) (blk off cap i j : Nat) (d : Array α) (w : World) (hH : Holds enc w blk off d) (hcap : d.size ≤ cap) (hm : cap ≤ 9223372036854775807) (hij : i ≤ j) (hj : j ≤ d.size) :
    Calls Try.prog 33 #[.slice (some ⟨blk, off, none⟩) d.size cap, .int .i64 i, .int .i64 j] w fun e w' => e = .returned (.slice (some ⟨blk, off, none⟩) (d.size - (j - i)) cap) ∧ ∃ q, w' = putRow enc (Sort.ahead w q) blk off (d.toList.take i ++ d.toList.drop j ++ List.replicate (j - i) zr).toArray := AnyE.slices_Delete Try.laysDel enc h1 zr v23 i0 hi0 hz1 blk off cap i j d w hH hcap hm hij hj
end Go.Proofs
namespace Go.Proofs.Ytnhgjgoldcplnaa
open Go.RowKit Go.Maps
section
variable {i : Nat} {col col' : Nat → Nat} {w w' : World} {b : Nat} {W Q : Int} {L : List (List Int)} {d : Nat}
abbrev SlT := Option Addr × Nat × Nat
def encS (x : SlT) : Value := .slice x.1 x.2.1 x.2.2
theorem eb_enc {D : Nat → Prop} {w : World} : ∀ {L : List (List Int)} {cs : List (List Value)}, All2 (EB.enc D w) L cs → ∃ ds : List SlT, cs = ds.map fun x => [encS x]
 | [], [], _ => ⟨[], rfl⟩
 | x :: L, c :: cs, h => by
  obtain ⟨ds, rfl⟩ := eb_enc h.2
  obtain ⟨u, hu, hs⟩ := h.1
  obtain ⟨p, k, e⟩ := hs.lenv
  exact ⟨(p, x.length, k) :: ds, by rw [hu, e]; rfl⟩
 | [], _ :: _, h => h.elim
 | _ :: _, [], h => h.elim
theorem flat_one (ds : List SlT) : (ds.map fun x => [encS x]).flatten = ds.map encS := by
 induction ds with
 | nil => rfl
 | cons x ds ih => rw [List.map_cons, List.flatten_cons, ih]; rfl
theorem delete_any {v : Value} (h : Rc EB i col w v L) (hi : i ≠ 0) (m : Nat) (hm : m ≤ L.length) (hp : 0 < L.length) :
    Calls Try.prog 33 #[v, .int .i64 0, .int .i64 (m : Int)] w fun e w' => ∃ v', e = .returned v' ∧ Keep (fun k => v.ownBlock = some k) w w' ∧ Rc EB i col w' v' (L.drop m) ∧ v'.ownBlock = v.ownBlock := by
 obtain ⟨cs, h1, h2, h3⟩ := h
 obtain ⟨ds, hds⟩ := eb_enc h1
 rw [hds, flat_one] at h2
 have hne : v ≠ .slice none 0 0 := by
  rintro rfl
  rcases h2.2 with ⟨_, e⟩ | ⟨g, cap, cur, e, _⟩
  · omega
  · cases e
 have hlen : ds.length = L.length := by
  have := h1.len
  rw [hds, List.length_map] at this
  exact this.symm
 obtain ⟨g, cap, rfl, _, hgl, hnc, hcm, _, hH⟩ := Lib.holds_of_ownsRow h2 hne
 obtain ⟨i0, hi0, hz0, hz1, hz2⟩ := info_parts Try.infoB
 have hd := Try.slices_Delete encS (fun _ => rfl) (none, 0, 0) Try.zeroValue37 i0 hi0 hz1 g 0 cap 0 m ds.toArray w hH (by simp; omega) (by unfold maxLen at hcm; omega) (Nat.zero_le _) (by simp; omega)
 rw [show ds.toArray.size = L.length by simp [hlen]] at hd
 refine hd.mono ?_
 rintro e w' ⟨rfl, q, rfl⟩
 have hy : (ds.toArray.toList.take 0 ++ ds.toArray.toList.drop m ++ List.replicate (m - 0) ((none, 0, 0) : SlT)).length = L.length := by simp [hlen]; omega
 have hp' := Lib.ownsRow_putRow (q := q) (k := L.length - m) h2 hy (by omega)
 have hgr : w.grownBy (Sort.putRow encS (Sort.ahead w q) g 0 (ds.toArray.toList.take 0 ++ ds.toArray.toList.drop m ++ List.replicate (m - 0) ((none, 0, 0) : SlT)).toArray) (some g) := by
  refine ⟨rfl, rfl, rfl, by simp [Sort.putRow, Sort.mapBlock, Sort.ahead], fun k hk hne => ?_⟩
  have : g ≠ k := fun e => hne (by rw [e])
  simp [Sort.putRow, Sort.mapBlock, Sort.ahead, Array.getElem?_modify, this]
 have hkp : Keep (fun k => (Value.slice (some ⟨g, 0, none⟩) L.length cap).ownBlock = some k) w (Sort.putRow encS (Sort.ahead w q) g 0 (ds.toArray.toList.take 0 ++ ds.toArray.toList.drop m ++ List.replicate (m - 0) ((none, 0, 0) : SlT)).toArray) := Keep.of_grown hgr fun k _ e => e
 have hcg := h3 g rfl
 refine ⟨_, rfl, hkp, ⟨cs.drop m, ?_, ?_, ?_⟩, rfl⟩
 · refine (h1.drop m).imp fun x y hxy => EB.carry hxy (fun k hk => hkp.block k hk.2 fun e => ?_) fun k hk => ⟨hk.1, Nat.lt_of_lt_of_le hk.2 hkp.size⟩
   cases e
   exact hi (hcg.1.symm.trans hk.1)
 · rw [List.length_drop, hds, ← List.map_drop, flat_one]
   have e1 : (ds.toArray.toList.take 0 ++ ds.toArray.toList.drop m ++ List.replicate (m - 0) ((none, 0, 0) : SlT)).take (L.length - m) = ds.drop m := by
    simp only [List.take_zero, List.nil_append]
    rw [List.take_left' (by simp [hlen])]
   rw [e1] at hp'
   rw [Nat.sub_zero]
   exact hp'
 · intro k hk
   exact ⟨(h3 k hk).1, Nat.lt_of_lt_of_le (h3 k hk).2 hkp.size⟩
def ackOk (W : Int) (L : List (List Int)) (d : Nat) (n : Int) : Bool := decide ((d : Int) < n) && decide (n ≤ ((d + undT W L d : Nat) : Int))
def ackN (W : Int) (L : List (List Int)) (d : Nat) (n : Int) : Int := if ackOk W L d n then n - d else 0
def ackD (W : Int) (L : List (List Int)) (d : Nat) (n : Int) : Nat := if ackOk W L d n then n.toNat else d
theorem ack_no (h : PS i col w b W Q L d) (n : Int) (hn : ackOk W L d n = false) : Calls Try.prog 15 #[.pointer (some ⟨b, 0, none⟩), .int .i64 n] w fun e w' => e = .returned (.int .i64 0) ∧ ∃ k, w' = w.drewN k := by
 have HUW : Hid (∀ n, Calls Try.prog 32 #[.pointer (some ⟨b, 0, none⟩)] (w.drewN n) fun e w' => e = .returned (.int .i64 (undT W L d : Int)) ∧ ∃ m, w' = (w.drewN n).drewN m) := fun n => underWay_any (h.ev (Ev.drewN (fun _ => False) col w n) (fun h => h) fun h => h)
 obtain ⟨q, c, h1, h2, _⟩ := h.view
 have hc := cell_row (cur := [_, _, _, _]) h1 2 _ rfl
 have hf := h.few
 have hle := h.le
 have hul := und_le W L d
 unfold ackOk at hn
 clear h h1 h2
 generalize undT W L d = u at *
 have hd2 : d ≤ 100000 := by omega
 have hu2 : u ≤ 100000 := by omega
 by_cases h' : n ≤ (d : Int)
 · have hd' : decide (n ≤ (d : Int)) = true := decide_eq_true h'
   clear hn
   go_enter Try.func15, Try.ntmps15
   go_upto_region 1 with fail
   go_quiet ((go_at_call 32; exact Calls.quiet_of (HUW.out _)))
   go_wp2
   go_ret
   exact ⟨rfl, nq, rfl⟩
 · have hd' : decide (n ≤ (d : Int)) = false := decide_eq_false h'
   have hd3 : decide ((d : Int) + (u : Int) < n) = true := by
    refine decide_eq_true ?_
    rw [decide_eq_true (by omega)] at hn
    simp at hn
    omega
   clear hn
   go_enter Try.func15, Try.ntmps15
   go_upto_region 1 with fail
   go_quiet ((go_at_call 32; exact Calls.quiet_of (HUW.out _)))
   go_wp2
   go_ret
   exact ⟨rfl, nq, rfl⟩
theorem ack_yes (h : PS i col w b W Q L d) (hi : i ≠ 0) (m : Nat) (hn : ackOk W L d ((d + m : Nat) : Int) = true) : Calls Try.prog 15 #[.pointer (some ⟨b, 0, none⟩), .int .i64 ((d + m : Nat) : Int)] w fun e w' => e = .returned (.int .i64 (m : Int)) ∧ Ev (· = i) col w col w' ∧ PS i col w' b W Q L (d + m) := by
 have HUW : Hid (∀ n, Calls Try.prog 32 #[.pointer (some ⟨b, 0, none⟩)] (w.drewN n) fun e w' => e = .returned (.int .i64 (undT W L d : Int)) ∧ ∃ m, w' = (w.drewN n).drewN m) := fun n => underWay_any (h.ev (Ev.drewN (fun _ => False) col w n) (fun h => h) fun h => h)
 obtain ⟨q, c, h1, h2, h3⟩ := h.view
 have hf := h.few
 have hle := h.le
 have hul := und_le W L d
 unfold ackOk at hn
 simp only [Bool.and_eq_true, decide_eq_true_eq] at hn
 have hbl := h.ob
 have hm : m ≤ L.length - d := by omega
 have hm1 : 0 < m := by omega
 have HDL : Hid (∀ k, Calls Try.prog 33 #[.slice q (L.length - d) c, .int .i64 0, .int .i64 (m : Int)] (w.drewN k) fun e w' => ∃ q' c', e = .returned (.slice q' (L.length - d - m) c') ∧ w'.heap[b]? = some (.cells #[.int .i64 W, .int .i64 Q, .int .i64 (d : Int), .slice q (L.length - d) c] 64) ∧
     (Ev (· = i) col w col ((w'.setCell ⟨b, 2, none⟩ (.int .i64 ((d + m : Nat) : Int))).setCell ⟨b, 3, none⟩ (.slice q' (L.length - d - m) c')) ∧ PS i col ((w'.setCell ⟨b, 2, none⟩ (.int .i64 ((d + m : Nat) : Int))).setCell ⟨b, 3, none⟩ (.slice q' (L.length - d - m) c')) b W Q L (d + m))) := fun k => by
  have hk := h2.ev (Ev.drewN (fun _ => False) col w k) (fun h => h) fun h => h
  refine (delete_any hk hi m (by rw [List.length_drop]; exact hm) (by rw [List.length_drop]; omega)).mono ?_
  rintro e w' ⟨v', rfl, hkp, hr, ho⟩
  obtain ⟨q', c', e⟩ := hr.slice
  rw [List.length_drop, List.length_drop] at e
  subst e
  have hkp2 : Keep (fun k => (Value.slice q (L.length - d) c).ownBlock = some k) w w' := ⟨hkp.os, hkp.tape, hkp.output, hkp.size, hkp.block⟩
  have hb : w'.heap[b]? = some (.cells #[.int .i64 W, .int .i64 Q, .int .i64 (d : Int), .slice q (L.length - d) c] 64) := (hkp2.block b hbl.2 h3).trans h1
  refine ⟨q', c', rfl, hb, ?_, ?_⟩
  · have he : Ev (· = i) col w col w' := ⟨fun _ _ => rfl, hkp2.mono fun k _ e => (h2.own k e).1⟩
    exact (he.set hbl.1 _).set hbl.1 _
  · have hne : (Value.slice q' (L.length - d - m) c').ownBlock ≠ some b := by rw [ho]; exact h3
    refine ⟨⟨hbl.1, by simp; exact obj_lt hb⟩, ⟨.slice q' (L.length - d - m) c', ?_, ?_, hne⟩, by omega, h.ok, h.few⟩
    · have hb2 : (w'.setCell ⟨b, 2, none⟩ (.int .i64 ((d + m : Nat) : Int))).heap[b]? = some (.cells #[.int .i64 W, .int .i64 Q, .int .i64 ((d + m : Nat) : Int), .slice q (L.length - d) c] 64) := by
        rw [heap_setCell_same w' b 2 _ _ _ hb]
        rfl
      rw [heap_setCell_same _ b 3 _ _ _ hb2]
      rfl
    · rw [List.drop_drop] at hr
      have h0 : col b ≠ 0 := by rw [hbl.1]; exact hi
      exact (hr.set h0 hne).set h0 hne
 have hc2 := cell_row (cur := [_, _, _, _]) h1 2 _ rfl
 have hc3 := cell_row (cur := [_, _, _, _]) h1 3 _ rfl
 clear h h1 h2 h3 hbl
 generalize undT W L d = u at *
 have hd2 : d ≤ 100000 := by omega
 have hu2 : u ≤ 100000 := by omega
 have hm2 : m ≤ 100000 := by omega
 have hd' : decide (((d + m : Nat) : Int) ≤ (d : Int)) = false := decide_eq_false (by omega)
 have hd3 : decide ((d : Int) + (u : Int) < ((d + m : Nat) : Int)) = false := decide_eq_false (by omega)
 have HSUB : Hid (((d + m : Nat) : Int) - (d : Int) = (m : Int)) := by show _ = _; omega
 obtain ⟨N, hN⟩ : ∃ N : Int, ((d + m : Nat) : Int) = N := ⟨_, rfl⟩
 rw [hN] at hd' hd3 HSUB HDL ⊢
 have hNb : 0 ≤ N ∧ N ≤ 200000 := by omega
 clear hN hn hul hle hf
 go_enter Try.func15, Try.ntmps15
 go_upto_region 1 with fail
 go_quiet ((go_at_call 32; exact Calls.quiet_of (HUW.out _)))
 go_upto_region 4 with fail
 rw [HSUB.out]
 go_wp2_with (go_at_call 33; refine (HDL.out _).mono ?_; rintro e w2 ⟨q', c', rfl, hb2, hE⟩; have HE := (show Hid _ from hE); have hx2 := cell_row (cur := [_, _, _, _]) hb2 2 _ rfl; have hx3 := cell_row (cur := [_, _, _, _]) hb2 3 _ rfl; have hz2 := frozen_of_row w2 b 2 _ _ hb2; have hz3 := frozen_of_row w2 b 3 _ _ hb2; clear hE hb2)
 go_ret
 exact ⟨rfl, HE.out⟩
theorem ack_any (h : PS i col w b W Q L d) (hi : i ≠ 0) (n : Int) : Calls Try.prog 15 #[.pointer (some ⟨b, 0, none⟩), .int .i64 n] w fun e w' => e = .returned (.int .i64 (ackN W L d n)) ∧ Ev (· = i) col w col w' ∧ PS i col w' b W Q L (ackD W L d n) := by
 unfold ackN ackD
 cases hn : ackOk W L d n with
 | false =>
  refine (ack_no h n hn).mono ?_
  rintro e w' ⟨rfl, k, rfl⟩
  have he := Ev.drewN (fun _ => False) col w k
  exact ⟨rfl, he.mono fun _ h => h.elim, h.ev he (fun h => h) fun h => h⟩
 | true =>
  obtain ⟨m, rfl⟩ : ∃ m : Nat, n = ((d + m : Nat) : Int) := by
   have := hn
   unfold ackOk at this
   simp only [Bool.and_eq_true, decide_eq_true_eq] at this
   exact ⟨(n - d).toNat, by omega⟩
  refine (ack_yes h hi m hn).mono ?_
  rintro e w' ⟨rfl, h1, h2⟩
  rw [if_pos rfl, if_pos rfl, Int.toNat_natCast]
  exact ⟨ret_int (by omega), h1, h2⟩
end
section
variable {col col' : Nat → Nat} {w w' : World}
theorem newS_yes {W Q : Int} (h : okS W Q = true) (w : World) : Calls Try.prog 10 #[.int .i64 W, .int .i64 Q] w fun e w' => e = .returned (.tuple #[.pointer (some ⟨w.heap.size, 0, none⟩), .int .i64 0]) ∧ w' = w.alloc (.cells #[.int .i64 W, .int .i64 Q, .int .i64 0, .slice none 0 0] 64) :=
 (newSender_any W Q w).mono fun e w' hh => by unfold NewSP at hh; rw [if_pos h] at hh; exact hh
theorem newR_yes {W : Int} (h : wideT W = true) (w : World) : Calls Try.prog 22 #[.int .i64 W] w fun e w' => e = .returned (.tuple #[.pointer (some ⟨w.heap.size + 1, 0, none⟩), .int .i64 0]) ∧ w' = (w.alloc (.map #[] 0)).alloc (.cells #[.int .i64 W, .int .i64 0, .map (some w.heap.size)] 69) :=
 (newReceiver_any W w).mono fun e w' hh => by unfold NewRP at hh; rw [if_pos h] at hh; exact hh
theorem byte_new (x : Int) (h0 : 0 ≤ x) (h1 : x ≤ 255) : Below w.heap.size w (w.alloc (.cells #[.int .u8 x] 5 (1, 2))) ∧ Vw EU (paint col w none 0) (w.alloc (.cells #[.int .u8 x] 5 (1, 2))) (.slice (some ⟨w.heap.size, 0, none⟩) 1 1) [x] := by
 refine ⟨(Below.refl _ _).alloc (Nat.le_refl _) _, ?_⟩
 refine Sl.of_bytes (xs := [x]) (Nat.le_refl _) (fun h => by cases h) (by simp; omega) fun _ => ⟨_, 0, rfl, ⟨paint_new (Nat.le_refl _) (by intro e; cases e), by simp⟩, fun j y hj => ?_⟩
 match j, hj with
 | 0, hj =>
  simp at hj
  subst hj
  exact cell_row (cur := [_]) (heap_alloc_new _ _) 0 _ rfl
def S12 : Nat → Prop := fun c => c = 1 ∨ c = 2
structure SR (w0 : World) (sb rb : Nat) (L : List (List Int)) (d : Nat) (t : Int) (K : Kp) (col : Nat → Nat) (w : World) : Prop where
 s : PS 1 col w sb 2 5 L d
 r : PR 2 col w rb 2 t K
 ev : Ev S12 (fun _ => 3) w0 col w
theorem SR.below {w0 : World} {sb rb : Nat} {L : List (List Int)} {d : Nat} {t : Int} {K : Kp} (h : SR w0 sb rb L d t K col w) : Below w0.heap.size w0 w := h.ev.keep.below (Nat.le_refl _) fun k _ e => by rcases e with e | e <;> cases e
theorem push_one {w0 : World} {sb rb : Nat} {L : List (List Int)} {d : Nat} {t : Int} {K : Kp} (h : SR w0 sb rb L d t K col w) (hL : L.length ≤ 10) (x : Int) (h0 : 0 ≤ x) (h1 : x ≤ 255) (hp : pushE 2 5 L d [x] = 0) :
    Calls Try.prog 13 #[.pointer (some ⟨sb, 0, none⟩), .slice (some ⟨w.heap.size, 0, none⟩) 1 1] (w.alloc (.cells #[.int .u8 x] 5 (1, 2))) fun e w' => e = .returned (.int .i64 0) ∧ ∃ c, SR w0 sb rb (L ++ [[x]]) d t K c w' := by
 obtain ⟨hb, hv⟩ := byte_new (col := col) (w := w) x h0 h1
 have he : Ev (fun _ => False) col w (paint col w none 0) (w.alloc (.cells #[.int .u8 x] 5 (1, 2))) := Ev.paint (Keep.of_below hb) _ _
 have hs := h.s.ev he (fun h => h) fun h => h
 have hr := h.r.ev he (fun h => h) fun h => h
 refine (push_any hs (by decide) (by omega) hv (by simp)).mono ?_
 rintro e w' ⟨rfl, c, k1, k2⟩
 rw [hp]
 unfold pushL at k2
 rw [hp, if_pos rfl] at k2
 exact ⟨rfl, c, k2, hr.ev k1 (by decide) (by decide), (h.ev.trans he fun _ h => h.elim).trans k1 fun i hi => .inl hi⟩
theorem sr_start (w : World) : SR w w.heap.size ((w.alloc (.cells #[.int .i64 2, .int .i64 5, .int .i64 0, .slice none 0 0] 64)).heap.size + 1) [] 0 0 [] (paintAll (paint (fun _ => 3) w (some w.heap.size) 1) (w.alloc (.cells #[.int .i64 2, .int .i64 5, .int .i64 0, .slice none 0 0] 64)) 2)
    (((w.alloc (.cells #[.int .i64 2, .int .i64 5, .int .i64 0, .slice none 0 0] 64)).alloc (.map #[] 0)).alloc (.cells #[.int .i64 2, .int .i64 0, .map (some (w.alloc (.cells #[.int .i64 2, .int .i64 5, .int .i64 0, .slice none 0 0] 64)).heap.size)] 69)) := by
 have h1 : PS 1 (paint (fun _ => 3) w (some w.heap.size) 1) (w.alloc (.cells #[.int .i64 2, .int .i64 5, .int .i64 0, .slice none 0 0] 64)) w.heap.size 2 5 [] 0 := PS.new (by decide)
 have e0 : Ev (fun _ => False) (fun _ => 3) w (paint (fun _ => 3) w (some w.heap.size) 1) (w.alloc (.cells #[.int .i64 2, .int .i64 5, .int .i64 0, .slice none 0 0] 64)) := Ev.paint (Keep.of_below ((Below.refl _ _).alloc (Nat.le_refl _) _)) _ _
 generalize w.alloc (.cells #[.int .i64 2, .int .i64 5, .int .i64 0, .slice none 0 0] 64) = w1 at *
 have hb : Below w1.heap.size w1 ((w1.alloc (.map #[] 0)).alloc (.cells #[.int .i64 2, .int .i64 0, .map (some w1.heap.size)] 69)) := ((Below.refl _ _).alloc (Nat.le_refl _) _).alloc (by simp) _
 have e1 : Ev (fun _ => False) (paint (fun _ => 3) w (some w.heap.size) 1) w1 (paintAll (paint (fun _ => 3) w (some w.heap.size) 1) w1 2) ((w1.alloc (.map #[] 0)).alloc (.cells #[.int .i64 2, .int .i64 0, .map (some w1.heap.size)] 69)) := Ev.paintAll (Keep.of_below hb) 2
 exact ⟨h1.ev e1 (fun h => h) fun h => h, PR.new (by decide), (e0.trans e1 fun _ h => h).mono fun _ h => h.elim⟩
theorem out_one {w0 : World} {sb rb : Nat} {L : List (List Int)} {d : Nat} {t : Int} {K : Kp} (h : SR w0 sb rb L d t K col w) (hs : ∀ x ∈ L, x.length ≤ 2000000) :
    Calls Try.prog 18 #[.pointer (some ⟨sb, 0, none⟩)] w fun e w' => ∃ v c, e = .returned v ∧ SR w0 sb rb L d t K c w' ∧ Ev (fun _ => False) col w c w' ∧ Vw EP c w' v (outK L d (undT 2 L d)) := by
 refine (out_any h.s hs).mono ?_
 rintro e w' ⟨hb, v, rfl, hv⟩
 have he : Ev (fun _ => False) col w (paint col w none 0) w' := Ev.paint (Keep.of_below hb) _ _
 exact ⟨v, _, rfl, ⟨h.s.ev he (fun h => h) fun h => h, h.r.ev he (fun h => h) fun h => h, h.ev.trans he fun _ h => h.elim⟩, he, hv⟩
theorem ack_one {w0 : World} {sb rb : Nat} {L : List (List Int)} {d : Nat} {t : Int} {K : Kp} (h : SR w0 sb rb L d t K col w) (n : Int) :
    Calls Try.prog 15 #[.pointer (some ⟨sb, 0, none⟩), .int .i64 n] w fun e w' => e = .returned (.int .i64 (ackN 2 L d n)) ∧ SR w0 sb rb L (ackD 2 L d n) t K col w' ∧ Ev (· = 1) col w col w' := by
 refine (ack_any h.s (by decide) n).mono ?_
 rintro e w' ⟨rfl, he, hp⟩
 exact ⟨rfl, ⟨hp, h.r.ev he (by decide) (by decide), h.ev.trans he fun i hi => .inl hi⟩, he⟩
theorem take_one {w0 : World} {sb rb : Nat} {L : List (List Int)} {d : Nat} {t : Int} {K : Kp} (h : SR w0 sb rb L d t K col w) (hK : K.length ≤ 10) (ht : t ≤ 10) {u : Value} {x : List Int} (hx : Vw EU col w u x) (hl : x.length ≤ 10) (s : Int) (hs : wf64 s) :
    Calls Try.prog 24 #[.pointer (some ⟨rb, 0, none⟩), .agg #[.int .i64 s, u]] w fun e w' => ∃ v c, e = .returned v ∧ SR w0 sb rb L d (takeT 2 t K s x).2.1 (takeT 2 t K s x).2.2 c w' ∧ Ev (· = 2) col w c w' ∧ Vw EB c w' v (takeT 2 t K s x).1 := by
 refine (take_any h.r (by decide) (by omega) (by omega) hx hs (by omega)).mono ?_
 rintro e w' ⟨v, rfl, c, he, hp, hv⟩
 exact ⟨v, c, rfl, ⟨h.s.ev he (by decide) (by decide), hp, h.ev.trans he fun i hi => .inr hi⟩, he, hv⟩
def lit3 (w : World) : World := ((w.alloc (.cells #[.int .u8 97] 5 (1, 2))).alloc (.cells #[.int .u8 98] 5 (1, 2))).alloc (.cells #[.slice (some ⟨w.heap.size, 0, none⟩) 1 1, .slice (some ⟨w.heap.size + 1, 0, none⟩) 1 1] 37)
theorem lit_below (w : World) : Below w.heap.size w (lit3 w) := (((Below.refl _ _).alloc (Nat.le_refl _) _).alloc (by simp) _).alloc (by simp; omega) _
theorem lit_ab (w : World) : Sl EB (fun k => k < (lit3 w).heap.size) (fun k => k < (lit3 w).heap.size) (lit3 w) (.slice (some ⟨w.heap.size + 2, 0, none⟩) ([[97], [98]] : List (List Int)).length 2) [[97], [98]] := by
 have z : (lit3 w).heap.size = w.heap.size + 3 := by simp [lit3]
 obtain ⟨A, hA⟩ : ∃ A : Obj, A = .cells #[.int .u8 97] 5 (1, 2) := ⟨_, rfl⟩
 obtain ⟨B, hB⟩ : ∃ B : Obj, B = .cells #[.int .u8 98] 5 (1, 2) := ⟨_, rfl⟩
 obtain ⟨C, hC⟩ : ∃ C : Obj, C = .cells #[.slice (some ⟨w.heap.size, 0, none⟩) 1 1, .slice (some ⟨w.heap.size + 1, 0, none⟩) 1 1] 37 := ⟨_, rfl⟩
 have hl : lit3 w = ((w.alloc A).alloc B).alloc C := by unfold lit3; rw [hA, hB, hC]
 have k1 : Below (w.alloc A).heap.size (w.alloc A) ((w.alloc A).alloc B) := (Below.refl _ _).alloc (Nat.le_refl _) _
 have k2 : Below ((w.alloc A).alloc B).heap.size ((w.alloc A).alloc B) (((w.alloc A).alloc B).alloc C) := (Below.refl _ _).alloc (Nat.le_refl _) _
 have b0 : (lit3 w).heap[w.heap.size]? = some (.cells #[.int .u8 97] 5 (1, 2)) := by
  rw [hl, k2.block _ (by simp; omega), k1.block _ (by simp), ← hA]
  exact heap_alloc_new _ _
 have b1 : (lit3 w).heap[w.heap.size + 1]? = some (.cells #[.int .u8 98] 5 (1, 2)) := by
  rw [hl, k2.block _ (by simp), ← hB]
  have := heap_alloc_new (w.alloc A) B
  simpa using this
 have b2 : (lit3 w).heap[w.heap.size + 2]? = some (.cells #[.slice (some ⟨w.heap.size, 0, none⟩) 1 1, .slice (some ⟨w.heap.size + 1, 0, none⟩) 1 1] 37) := by
  rw [hl, ← hC]
  have := heap_alloc_new ((w.alloc A).alloc B) C
  simpa using this
 have one : ∀ (k : Nat) (x : Int), 0 ≤ x → x ≤ 255 → k < w.heap.size + 3 → (lit3 w).heap[k]? = some (.cells #[.int .u8 x] 5 (1, 2)) → Sl EU (fun k => k < (lit3 w).heap.size) (fun k => k < (lit3 w).heap.size) (lit3 w) (.slice (some ⟨k, 0, none⟩) 1 1) [x] := by
  intro k x h0 h1 hk hc
  refine Sl.of_bytes (xs := [x]) (Nat.le_refl _) (fun h => by cases h) (by simp; omega) fun _ => ⟨_, 0, rfl, by rw [z]; exact hk, fun j y hj => ?_⟩
  match j, hj with
  | 0, hj =>
   simp at hj
   subst hj
   exact cell_row (cur := [_]) hc 0 _ rfl
 refine ⟨_, 2, [[.slice (some ⟨w.heap.size, 0, none⟩) 1 1], [.slice (some ⟨w.heap.size + 1, 0, none⟩) 1 1]], rfl, Nat.le_refl _, fun h => (by cases h), ⟨⟨_, rfl, one _ 97 (by decide) (by decide) (by omega) b0⟩, ⟨_, rfl, one _ 98 (by decide) (by decide) (by omega) b1⟩, trivial⟩, fun _ => ⟨_, 0, rfl, by rw [z]; omega, fun j u hj => ?_⟩⟩
 rw [Nat.zero_add]
 exact cell_row (cur := [_, _]) b2 j u hj
theorem awake_any (w : World) : Calls Try.prog 12 #[] w fun e w' => e = .returned (.bool true) ∧ Below w.heap.size w w' := by
 have hns := newS_yes (W := 2) (Q := 5) (by decide) w
 have hnr := fun X => newR_yes (W := 2) (by decide) X
 have h0 := sr_start w
 have hcv := fun (w : World) (x : Int) => Go.Lib.run_convert_bytes_const (P := Try.prog) w 37 5 #[.int .u8 x] 1 1 Try.underlying37 Try.underlying5
 obtain ⟨w1, hw1⟩ : ∃ w1, w.alloc (.cells #[.int .i64 2, .int .i64 5, .int .i64 0, .slice none 0 0] 64) = w1 := ⟨_, rfl⟩
 rw [hw1] at h0 hns
 clear hw1
 go_enter Try.func12, Try.ntmps12
 go_upto_region 2 with (go_at_call 10; refine hns.mono ?_; rintro e w' ⟨rfl, rfl⟩)
 go_upto_region 3 with (go_at_call 22; refine (hnr _).mono ?_; rintro e w' ⟨rfl, rfl⟩)
 obtain ⟨rb, hrb⟩ : ∃ rb, w'.heap.size + 1 = rb := ⟨_, rfl⟩
 obtain ⟨sb, hsb⟩ : ∃ sb, w.heap.size = sb := ⟨_, rfl⟩
 have HSB : Hid (w.heap.size = sb) := hsb
 rw [hrb, hsb] at h0
 rw [hrb, hsb]
 obtain ⟨c2, hS2⟩ : ∃ c2, SR w sb rb [] 0 0 [] c2 ((w'.alloc (.map #[] 0)).alloc (.cells #[.int .i64 2, .int .i64 0, .map (some w'.heap.size)] 69)) := ⟨_, h0⟩
 generalize (w'.alloc (.map #[] 0)).alloc (.cells #[.int .i64 2, .int .i64 0, .map (some w'.heap.size)] 69) = W2 at *
 clear hns hnr h0 hrb hsb
 have hp := push_one hS2 (by decide) 97 (by decide) (by decide) (by decide)
 go_upto_region 4 with (go_at_call 13; refine hp.mono ?_; rintro e W3 ⟨rfl, c3, hS⟩)
 have hS3 : SR w sb rb [[97]] 0 0 [] c3 W3 := hS
 clear hp hS hS2
 have hp := push_one hS3 (by decide) 98 (by decide) (by decide) (by decide)
 go_upto_region 5 with (go_at_call 13; refine hp.mono ?_; rintro e W4 ⟨rfl, c4, hS⟩)
 have hS4 : SR w sb rb [[97], [98]] 0 0 [] c4 W4 := hS
 clear hp hS hS3
 have hp := push_one hS4 (by decide) 99 (by decide) (by decide) (by decide)
 go_upto_region 6 with (go_at_call 13; refine hp.mono ?_; rintro e W5 ⟨rfl, c5, hS⟩)
 have hS5 : SR w sb rb [[97], [98], [99]] 0 0 [] c5 W5 := hS
 clear hp hS hS4
 have ho := out_one hS5 (by simp)
 go_upto_region 7 with (go_at_call 18; refine ho.mono ?_; rintro e W6 ⟨v6, c6, rfl, hS6, _, hv6⟩)
 have hv6' : Vw EP c6 W6 v6 [(0, [97]), (1, [98])] := hv6
 clear ho hv6 hS5
 have ha := ack_one hS6 1
 rw [show ackN 2 [[97], [98], [99]] 0 1 = 1 by decide] at ha
 go_upto_region 8 with (go_at_call 15; refine ha.mono ?_; rintro e W7 ⟨rfl, hS7, he7⟩)
 have hS7' : SR w sb rb [[97], [98], [99]] 1 0 [] c6 W7 := hS7
 have hv7 := Vw.ev hv6' he7 (by decide)
 clear ha hv6' hS6 hS7 he7
 have ho := out_one hS7' (by simp)
 go_upto_region 9 with (go_at_call 18; refine ho.mono ?_; rintro e W8 ⟨v8, c8, rfl, hS8, he8, hv8⟩)
 have hv8' : Vw EP c8 W8 v8 [(1, [98]), (2, [99])] := hv8
 have hv68 := Vw.ev hv7 he8 (fun h => h)
 clear ho hv8 hS7' he8 hv7
 obtain ⟨p6, k6, rfl, _, _, hn6, hc6⟩ := hv68.pieces
 obtain ⟨p8, k8, rfl, _, _, hn8, hc8⟩ := hv8'.pieces
 obtain ⟨b6, o6, rfl, hb6'⟩ := hn6 (by simp)
 obtain ⟨b8, o8, rfl, hb8⟩ := hn8 (by simp)
 obtain ⟨u0, a00, a01, a0⟩ := hc6 b6 o6 rfl 0 _ rfl
 obtain ⟨u1, a10, a11, a1⟩ := hc6 b6 o6 rfl 1 _ rfl
 obtain ⟨y1, b10, b11, _⟩ := hc8 b8 o8 rfl 1 _ rfl
 obtain ⟨q0, g0, hq0⟩ := a0.lenv
 obtain ⟨q1, g1, hq1⟩ := a1.lenv
 subst hq0 hq1
 clear hc6 hc8 hn6 hn8 hv68 hv8'
 have x00 : W8.cell? ⟨b6, o6, none⟩ = some (.int .i64 0) := a00
 have x01 : W8.cell? ⟨b6, o6 + 1, none⟩ = some (.slice q0 1 g0) := by rw [Nat.zero_mul, Nat.add_zero] at a01; exact a01
 have x10 : W8.cell? ⟨b6, o6 + 2, none⟩ = some (.int .i64 1) := a10
 have x11 : W8.cell? ⟨b6, o6 + 3, none⟩ = some (.slice q1 1 g1) := a11
 have z10 : W8.cell? ⟨b8, o8 + 2, none⟩ = some (.int .i64 2) := b10
 have ha1 : Vw EU c8 W8 (.slice q1 1 g1) [98] := a1
 have ha0 : Vw EU c8 W8 (.slice q0 1 g0) [97] := a0
 have hk6 : (2 : Int) ≤ (k6 : Int) ∨ True := .inr trivial
 clear a00 a01 a10 a11 b10 b11 a0 a1 hk6
 have ht := take_one hS8 (by simp) (by decide) ha1 (by simp) 1 (by unfold wf64; omega)
 have hlt2 : ([(0, [97]), (1, [98])] : List (Int × List Int)).length = 2 := rfl
 go_upto_region 12 with (go_at_call 24; refine ht.mono ?_; rintro e W9 ⟨v9, c9, rfl, hS9, he9, hv9⟩)
 have hS9' : SR w sb rb [[97], [98], [99]] 1 0 [(1, [98])] c9 W9 := hS9
 have hv9' : Vw EB c9 W9 v9 [] := hv9
 have ha0' := Vw.ev ha0 he9 (by decide)
 have y00 : W9.cell? ⟨b6, o6, none⟩ = some (.int .i64 0) := (World.cell?_of_block (he9.same (i := 0) (by decide) b6 hb6')).trans x00
 have y01 : W9.cell? ⟨b6, o6 + 1, none⟩ = some (.slice q0 1 g0) := (World.cell?_of_block (he9.same (i := 0) (by decide) b6 hb6')).trans x01
 obtain ⟨p9, k9, rfl⟩ := hv9'.lenv
 clear ht hS9 hv9 hv9' he9 ha1 ha0 x00 x01 x10 x11 z10 hS8
 have ht := take_one hS9' (by decide) (by decide) ha0' (by simp) 0 (by unfold wf64; omega)
 go_upto_region 13 with (go_at_call 24; refine ht.mono ?_; rintro e W10 ⟨v10, c10, rfl, hS10, _, hv10⟩)
 have hS10' : SR w sb rb [[97], [98], [99]] 1 2 [] c10 W10 := hS10
 have hv10' : Vw EB c10 W10 v10 [[97], [98]] := hv10
 have hbW : Below w.heap.size w W10 := hS10'.below
 clear ht hS10 hv10 hS9' ha0' y00 y01
 obtain ⟨p10, k10, rfl⟩ := hv10'.lenv
 have hlit := lit_ab W10
 have hb3 : Below W10.heap.size W10 (lit3 W10) := lit_below W10
 have htx := texts_any (hv10'.carry (w' := lit3 W10) (Same.of_below hb3 fun k hk => hk.2) (Same.of_below hb3 fun k hk => hk.2) (fun _ h => h) fun _ h => h) hlit (by decide)
 rw [show decide (([[97], [98]] : List (List Int)) = [[97], [98]]) = true by decide] at htx
 have hw3 := fun k => want_any (PR.ev hS10'.r (S := fun _ => False) (col' := c10) (w' := (lit3 W10).drewN k) ⟨fun _ _ => rfl, Keep.of_below (below_drewN hb3 k)⟩ (fun h => h) fun h => h)
 unfold lit3 at htx hw3 hb3
 have hcv2 := Go.Joins.run_convert_bytes_const_at (P := Try.prog) (W10.alloc (.cells #[.int .u8 97] 5 (1, 2))) 37 5 #[.int .u8 98] 1 1 (W10.heap.size + 1) (by simp) Try.underlying37 Try.underlying5
 go_wp2_with (first
  | (go_at_call 23; refine htx.mono ?_; rintro e W11 ⟨rfl, k, rfl⟩)
  | (go_at_call 26; refine (hw3 _).mono ?_; rintro e W12 ⟨rfl, rfl⟩))
 go_ret
 exact ⟨rfl, below_drewN (belowP hbW hb3) _⟩
end
def S7 : Nat → Prop := fun c => 1 ≤ c ∧ c ≤ 7
theorem runR_gen : ∀ (n : Nat) (t : Int) (K : Kp), K.length ≤ n → Apart K → (∀ p ∈ K, t ≤ p.1) →
    (runR n t K).2.1 = t + (runR n t K).1.length ∧ (∀ (j : Nat) (y : List Int), (runR n t K).1[j]? = some y → (t + (j : Int), y) ∈ K) ∧ Apart (runR n t K).2.2 ∧ (∀ p ∈ (runR n t K).2.2, p ∈ K ∧ (runR n t K).2.1 < p.1) ∧ (∀ p ∈ K, p ∈ (runR n t K).2.2 ∨ p.1 < (runR n t K).2.1) ∧ (runR n t K).2.2.length + (runR n t K).1.length = K.length := by
 intro n
 induction n with
 | zero =>
  intro t K hK hA hp
  obtain rfl : K = [] := List.eq_nil_of_length_eq_zero (by omega)
  exact ⟨by simp [runR], fun j y h => by simp [runR] at h, hA, fun p h => by simp [runR] at h, fun p h => by simp at h, rfl⟩
 | succ n ih =>
  intro t K hK hA hp
  cases hl : look K t with
  | none =>
   rw [runR_none hl]
   refine ⟨by simp, fun j y h => by simp at h, hA, fun p h => ⟨h, ?_⟩, fun p h => .inl h, by simp⟩
   have h1 := hp p h
   have h2 := look_none.1 hl p h
   show t < p.1
   omega
  | some y =>
   have hlen := less_len hl
   have hp2 : ∀ p ∈ less K t, t + 1 ≤ p.1 := fun p h => by
    have h1 := hp p (less_mem h)
    have h2 := look_none.1 (less_same hA) p h
    omega
   obtain ⟨h1, h2, h3, h4, h5, h6⟩ := ih (t + 1) (less K t) (by omega) hA.less hp2
   rw [runR_some hl]
   refine ⟨by rw [h1]; simp; omega, fun j z hj => ?_, h3, fun p h => ⟨less_mem (h4 p h).1, (h4 p h).2⟩, fun p h => ?_, by simp; omega⟩
   · cases j with
     | zero =>
      simp at hj
      subst hj
      simpa using look_some hl
     | succ j =>
      have := less_mem (h2 j z (by simpa using hj))
      rw [show t + 1 + (j : Int) = t + ((j + 1 : Nat) : Int) by omega] at this
      exact this
   · by_cases e : p.1 = t
     · right
       rw [h1]
       omega
     · refine h5 p ?_
       unfold less
       exact (List.mem_eraseP_of_neg (by simpa using e)).2 h
theorem nodup_range : ∀ (n : Nat) (a : Int) (l : List Int), l.Nodup → (∀ x ∈ l, a ≤ x ∧ x < a + n) → l.length ≤ n
 | 0, a, l, _, h => by
  cases l with
  | nil => simp
  | cons x r => have := h x (by simp); omega
 | n + 1, a, l, hn, h => by
  by_cases hm : a + n ∈ l
  · have h1 := nodup_range n a (l.erase (a + n)) (hn.erase _) fun x hx => by
      have h2 := (List.Nodup.mem_erase_iff hn).1 hx
      have := h x h2.2
      have := h2.1
      omega
    rw [List.length_erase_of_mem hm] at h1
    omega
  · have h1 := nodup_range n a l hn fun x hx => by
      have h2 := h x hx
      have : x ≠ a + n := fun e => hm (e ▸ hx)
      omega
    omega
def placeT (K : Kp) (x : Int) : Nat := K.findIdx fun p => p.1 == x
def findT (K : Kp) (x : Int) : Int := if placeT K x < K.length then (placeT K x : Int) else -1
theorem place_step : ∀ {K : Kp} {x : Int} {j : Nat} {p : Int × List Int}, j ≤ placeT K x → K[j]? = some p → (p.1 = x → placeT K x = j) ∧ (p.1 ≠ x → j + 1 ≤ placeT K x)
 | [], _, _, _, _, h => by simp at h
 | q :: K, x, 0, p, _, h => by
  simp at h
  subst h
  unfold placeT
  rw [List.findIdx_cons]
  constructor
  · intro e
    have : (q.1 == x) = true := by simpa using e
    rw [this]
    rfl
  · intro e
    have : (q.1 == x) = false := by simpa using e
    rw [this]
    simp
 | q :: K, x, j + 1, p, hj, h => by
  unfold placeT at hj ⊢
  rw [List.findIdx_cons] at hj ⊢
  cases hq : (q.1 == x) with
  | true => rw [hq] at hj; simp at hj
  | false =>
   rw [hq] at hj
   simp only [cond_false] at hj ⊢
   have := place_step (K := K) (x := x) (j := j) (p := p) (by unfold placeT; omega) (by simpa using h)
   unfold placeT at this
   exact ⟨fun e => by rw [this.1 e], fun e => by have := this.2 e; omega⟩
theorem look_place : ∀ {K : Kp} {x : Int}, (look K x).isSome = decide (placeT K x < K.length)
 | [], _ => rfl
 | q :: K, x => by
  unfold look placeT
  rw [List.findIdx_cons, List.find?_cons]
  cases hq : (q.1 == x) with
  | true => simp
  | false =>
   have := look_place (K := K) (x := x)
   unfold look placeT at this
   simp only [cond_false, List.length_cons]
   rw [this]
   simp
theorem look_at : ∀ {K : Kp} {x : Int} {y : List Int}, look K x = some y → K[placeT K x]? = some (x, y)
 | [], _, _, h => by simp [look] at h
 | q :: K, x, y, h => by
  unfold look at h
  rw [List.find?_cons] at h
  unfold placeT
  rw [List.findIdx_cons]
  cases hq : (q.1 == x) with
  | true =>
   rw [hq] at h
   have e : q.1 = x := by simpa using hq
   simp at h
   simp [← e, ← h]
  | false =>
   rw [hq] at h
   have := look_at (K := K) (x := x) (y := y) h
   unfold placeT at this
   simpa using this
theorem less_place : ∀ {K : Kp} {x : Int}, less K x = K.take (placeT K x) ++ K.drop (placeT K x + 1)
 | [], _ => rfl
 | q :: K, x => by
  unfold less placeT
  rw [List.findIdx_cons, List.eraseP_cons]
  cases hq : (q.1 == x) with
  | true => simp
  | false =>
   have := less_place (K := K) (x := x)
   unfold less placeT at this
   simp only [cond_false]
   rw [this]
   simp
structure RR (i : Nat) (col : Nat → Nat) (w : World) (b : Nat) (W t : Int) (K : Kp) : Prop where
 ob : Cl col i w b
 row : ∃ v, w.heap[b]? = some (.cells #[.int .i64 W, .int .i64 t, v] 50) ∧ Rc EP i col w v K ∧ v.ownBlock ≠ some b
 ok : wideT W = true
 pos : 0 ≤ t
section
variable {S : Nat → Prop} {i : Nat} {col col' : Nat → Nat} {w w' : World} {b : Nat} {W t : Int} {K : Kp}
theorem RR.ev (h : RR i col w b W t K) (he : Ev S col w col' w') (h0 : ¬ S 0) (hi : ¬ S i) : RR i col' w' b W t K := by
 obtain ⟨v, h1, h2, h3⟩ := h.row
 exact ⟨he.cl b h.ob, ⟨v, (he.same hi b h.ob).trans h1, h2.ev he h0 hi, h3⟩, h.ok, h.pos⟩
theorem RR.new (hok : wideT W = true) : RR i (paint col w (some w.heap.size) i) (w.alloc (.cells #[.int .i64 W, .int .i64 0, .slice none 0 0] 50)) w.heap.size W 0 [] :=
 ⟨⟨paint_it (Nat.le_refl _), by simp⟩, ⟨_, heap_alloc_new _ _, Rw.nil _ _ _ _, fun h => by cases h⟩, hok, Int.le_refl _⟩
theorem find_row {O D : Nat → Prop} {v : Value} (hc : w.heap[b]? = some (.cells #[.int .i64 W, .int .i64 t, v] 50)) (hv : Sl EP O D w v K) (hK : K.length ≤ 100000) (x : Int) :
    Calls Try.prog 37 #[.pointer (some ⟨b, 0, none⟩), .int .i64 x] w fun e w' => e = .returned (.int .i64 (findT K x)) ∧ w' = w := by
 obtain ⟨p, c, rfl, h1, -, h3, h4⟩ := hv.pieces
 have hc2 := cell_row (cur := [_, _, _]) hc 2 _ rfl
 have HK : Hid (∀ j, j < K.length → ∃ (sb so : Nat) (q : Int × List Int), p = some ⟨sb, so, none⟩ ∧ w.cell? ⟨sb, so + j * 2, none⟩ = some (.int .i64 q.1) ∧ K[j]? = some q) := fun j hj => by
  obtain ⟨sb, so, e, -⟩ := h3 (by rintro rfl; simp at hj)
  obtain ⟨u, k1, -, -⟩ := h4 sb so e j K[j] (List.getElem?_eq_getElem hj)
  exact ⟨sb, so, K[j], e, k1, List.getElem?_eq_getElem hj⟩
 have HF : Hid (∀ j, j ≤ K.length → j ≤ placeT K x → (j = K.length → findT K x = -1)) := fun j _ h2 e => by
  unfold findT
  rw [if_neg (by omega)]
 have HG : Hid (∀ j, j < K.length → placeT K x = j → findT K x = (j : Int)) := fun j h1 h2 => by
  unfold findT
  rw [h2, if_pos h1]
 obtain ⟨r, hr⟩ : ∃ r, findT K x = r := ⟨_, rfl⟩
 rw [hr] at HF HG ⊢
 clear hc hv h3 h4 hr
 generalize K.length = n at *
 go_enter Try.func37, Try.ntmps37
 go_upto_region 2 with fail
 go_loopw [5] (fun iv wr => ∃ j : Nat, j ≤ n ∧ iv = .int .i64 (j : Int) ∧ Hid (j ≤ placeT K x) ∧ wr = w) (fun iv _ => n - (intOf iv).toNat)
 case atStart => exact ⟨0, Nat.zero_le _, rfl, Nat.zero_le _, rfl⟩
 case round =>
  obtain ⟨j, hj, rfl, HP, rfl⟩ := hrel
  by_cases hjn : j < n
  · obtain ⟨sb, so, q, rfl, k1, k2⟩ := HK.out j hjn
    obtain ⟨s1, s2⟩ := place_step HP.out k2
    obtain ⟨q1, q2⟩ := q
    simp only at k1 s1 s2
    by_cases hq : q1 = x
    · have HE : Hid (r = (j : Int)) := HG.out j hjn (s1 hq)
      subst hq
      clear s1 s2 k2
      go_wp2
      go_ret
      exact ⟨by rw [HE.out]; rfl, rfl⟩
    · have HP2 : Hid (j + 1 ≤ placeT K x) := s2 hq
      have f1 : (q1 == x) = false := by simpa using hq
      have f2 : decide (q1 = x) = false := decide_eq_false hq
      clear s1 s2 k2
      go_wp2
      go_roundw
      case rel => exact ⟨j + 1, by omega, by go_num, HP2.out, by first | trivial | rfl⟩
      case measure => simp [intOf]; omega
  · obtain rfl : j = n := by omega
    have HE : Hid (r = -1) := HF.out j (Nat.le_refl _) HP.out rfl
    go_wp2
    go_ret
    exact ⟨by rw [HE.out]; rfl, rfl⟩
end
theorem copy_end {X w4 : World} {v' : Value} {x : List Int} (hg : (X.alloc (.cells #[] 5)).grownBy w4 (some X.heap.size)) (hat : v'.ownBlock = some X.heap.size ∨ v'.ownBlock = some (X.alloc (.cells #[] 5)).heap.size)
    (HD : ∀ D3 : Nat → Prop, (∀ k, False → D3 k) → (∀ k, False → D3 k) → (∀ k, D3 k → k < (X.alloc (.cells #[] 5)).heap.size ∧ some X.heap.size ≠ some k) → Rw EU (fun k => v'.ownBlock = some k) D3 w4 v' x) :
    Below X.heap.size X w4 ∧ ∀ D', Sl EU (New X w4) D' w4 v' x := by
 have hb1 : Below X.heap.size X (X.alloc (.cells #[] 5)) := (Below.refl _ _).alloc (Nat.le_refl _) _
 have hz : (X.alloc (.cells #[] 5)).heap.size = X.heap.size + 1 := by simp
 have hr := HD (fun _ => False) (fun _ h => h) (fun _ h => h) (fun _ h => h.elim)
 refine ⟨hb1.trans ⟨hg.os, hg.tape, hg.output, hg.size, fun k hk => hg.block k (by omega) (fun e => by cases e; omega)⟩, fun D' => ?_⟩
 refine Sl.anyD (D := fun _ => False) (hr.sl.carry (Same.refl _ _) (Same.refl _ _) (fun k hk => ⟨?_, hr.lt k hk⟩) fun _ h => h)
 rcases hat with e | e
 · rw [e] at hk; cases hk; exact Nat.le_refl _
 · rw [e] at hk; cases hk; omega
end Go.Proofs.Ytnhgjgoldcplnaa
