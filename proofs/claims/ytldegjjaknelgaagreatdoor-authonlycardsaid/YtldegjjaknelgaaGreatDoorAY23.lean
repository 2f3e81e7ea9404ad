/-
  An event's JSON, by a contract.
  Whether an event is well shaped but for its length, and its bytes: by contracts.
  Whether an event is well shaped but for its length: some of the ways.
  Whether an event is well shaped but for its length: some of the ways.
-/
import Derived.Test.YtldegjjaknelgaaGreatDoorAY22
set_option maxRecDepth 100000
set_option maxHeartbeats 16000000
namespace Go.Proofs.YtldegjjaknelgaaGreatDoor
open Go.RowKit
theorem TI.end {O : Nat → Prop} {w WB wr W5 : World} {kd : Int} {ks : List ByteArray} {js : List J} {q1 q2 : Option Addr} {n1 n2 c1 c2 : Nat} (h : TI O (w.heap.size + 3) (w.heap.size + 2) kd WB ks js (.slice q1 n1 c1) (.slice q2 n2 c2) wr) (hO : ∀ k, O k → k < w.heap.size) (hbw : Below w.heap.size w WB) (HK5 : Keep (One (w.heap.size + 1)) wr W5) :
    isJ (fun k => O k ∨ New w W5 k) W5 (.mk kd 0 nix ks js) [.int .i64 kd, .int .i64 0, .string nix, .slice q1 n1 c1, .slice q2 n2 c2] ∧ Below w.heap.size w W5 := by
 have hsz := h.size
 have h5 := HK5.size
 have hszB := h.szB
 obtain ⟨xs, hv1, hv2⟩ := h.vals
 obtain ⟨q1', c1', e1, hrk⟩ := own_rdK h.keys
 obtain ⟨q2', c2', e2, hc2, hrj⟩ := own_js hv1 hv2
 cases e1
 cases e2
 have carry : ∀ k, w.heap.size + 3 ≤ k → k < wr.heap.size → (O k ∨ New w W5 k) ∧ W5.heap[k]? = wr.heap[k]? := fun k h1 h2 => ⟨.inr ⟨by omega, by omega⟩, HK5.block k h2 (by unfold One; omega)⟩
 refine ⟨?_, ?_⟩
 · unfold isJ
   refine ⟨q1, c1, q2, c2, rfl, hrk.carry fun k hk => carry k hk.1 hk.2, hc2, hrj.carry fun k hk => ?_⟩
   rcases hk with hk | hk
   · rcases hk with hk | hk
     · have := hO k hk
       exact ⟨.inl hk, HK5.block k (by omega) (by unfold One; omega)⟩
     · exact carry k hk.1 hk.2.1
   · exact carry k hk.1 hk.2
 · exact (hbw.trans (h.keep.below (by omega) fun k hk => by unfold One; omega)).trans (HK5.below (by omega) fun k hk => by unfold One; omega)
theorem three_at {w : World} (o1 o2 o3 : Obj) : (((w.alloc o1).alloc o2).alloc o3).heap[w.heap.size + 2]? = some o3 ∧ (((w.alloc o1).alloc o2).alloc o3).heap[w.heap.size + 1]? = some o2 ∧ (((w.alloc o1).alloc o2).alloc o3).heap[w.heap.size]? = some o1 := by
 have h3 := heap_alloc_new ((w.alloc o1).alloc o2) o3
 refine ⟨by simpa using h3, ?_, ?_⟩
 · rw [Below.heap_alloc _ _ _ (by simp)]; exact two_at _ _
 · rw [Below.heap_alloc _ _ _ (by simp; omega)]; exact one_of _ _
theorem new_in {O : Nat → Prop} {W W2 : World} {y : J} {cs : List Value} (h : isJ (New W W2) W2 y cs) : isJ (fun k => O k ∨ New W W2 k) W2 y cs := h.carry fun _ hk => ⟨.inr hk, rfl⟩
theorem told_true {O : Nat → Prop} (room typ sender key : ByteArray) (k i : Int) (t : ByteArray) (ks : List ByteArray) (l : List J) (prev auth : List ByteArray) (depth ts : Int) (hash : ByteArray) (sigs : List (ByteArray × ByteArray)) (pk : Option Addr) (ck : Nat) (pl : Option Addr) (cl : Nat) (pp : Option Addr) (cp : Nat) (pa : Option Addr) (ca : Nat) (ps : Option Addr) (cs : Nat) (w : World)
    (hE : IsE O w ⟨room, typ, sender, true, key, ⟨k, i, t, ks, l⟩, prev, auth, depth, ts, hash, sigs⟩ ⟨pk, ck, pl, cl, pp, cp, pa, ca, ps, cs⟩) (hO : ∀ k, O k → k < w.heap.size) (h1 : prev.length ≤ 100000) (h2 : auth.length ≤ 100000) (h3 : sigs.length ≤ 100000) :
    Calls Tryz.prog 79 #[.agg #[.string room, .string typ, .string sender, .bool true, .string key, .int .i64 k, .int .i64 i, .string t, .slice pk ks.length ck, .slice pl l.length cl, .slice pp prev.length cp, .slice pa auth.length ca, .int .i64 depth, .int .i64 ts, .string hash, .slice ps sigs.length cs]] w fun x w' => (∃ pk nk ck pl nl cl, x = .returned (.agg #[.int .i64 5, .int .i64 0, .string nix, .slice pk nk ck, .slice pl nl cl]) ∧ isJ (fun k => O k ∨ New w w' k) w' (toldJ ⟨room, typ, sender, true, key, ⟨k, i, t, ks, l⟩, prev, auth, depth, ts, hash, sigs⟩) [.int .i64 5, .int .i64 0, .string nix, .slice pk nk ck, .slice pl nl cl]) ∧ Below w.heap.size w w' := by
 obtain ⟨WB, hWB⟩ : ∃ WB, WB = ((w.alloc (.cells #[.string room, .string typ, .string sender, .bool true, .string key, .int .i64 k, .int .i64 i, .string t, .slice pk ks.length ck, .slice pl l.length cl, .slice pp prev.length cp, .slice pa auth.length ca, .int .i64 depth, .int .i64 ts, .string hash, .slice ps sigs.length cs] 28)).alloc (.cells #[.int .i64 0, .int .i64 0, .string ⟨#[]⟩, .slice none 0 0, .slice none 0 0] 25)).alloc (.cells #[.int .i64 5, .int .i64 0, .string ⟨#[]⟩, .slice none 0 0, .slice none 0 0] 25) := ⟨_, rfl⟩
 have hbw : Below w.heap.size w WB := by rw [hWB]; exact (((Below.refl _ _).alloc (Nat.le_refl _) _).alloc (by simp) _).alloc (by simp; omega) _
 obtain ⟨q1, q2, q3⟩ := three_at (w := w) (.cells #[.string room, .string typ, .string sender, .bool true, .string key, .int .i64 k, .int .i64 i, .string t, .slice pk ks.length ck, .slice pl l.length cl, .slice pp prev.length cp, .slice pa auth.length ca, .int .i64 depth, .int .i64 ts, .string hash, .slice ps sigs.length cs] 28) (.cells #[.int .i64 0, .int .i64 0, .string ⟨#[]⟩, .slice none 0 0, .slice none 0 0] 25) (.cells #[.int .i64 5, .int .i64 0, .string ⟨#[]⟩, .slice none 0 0, .slice none 0 0] 25)
 rw [← hWB] at q1 q2 q3
 have htiB : TI O (w.heap.size + 3) (w.heap.size + 2) 5 WB [] [] (.slice none 0 0) (.slice none 0 0) WB := TI.start (by rw [hWB]; simp) (by omega) (fun k h => by have := hO k h; omega) q1
 have HE : Hid (∀ {ks' : List ByteArray} {js : List J} {vk vl : Value} {W : World}, TI O (w.heap.size + 3) (w.heap.size + 2) 5 WB ks' js vk vl W → IsE O W ⟨room, typ, sender, true, key, ⟨k, i, t, ks, l⟩, prev, auth, depth, ts, hash, sigs⟩ ⟨pk, ck, pl, cl, pp, cp, pa, ca, ps, cs⟩ ∧ (∀ k, O k → k < W.heap.size) ∧ (∀ j v, [.string room, .string typ, .string sender, .bool true, .string key, .int .i64 k, .int .i64 i, .string t, .slice pk ks.length ck, .slice pl l.length cl, .slice pp prev.length cp, .slice pa auth.length ca, .int .i64 depth, .int .i64 ts, .string hash, .slice ps sigs.length cs][j]? = some v → W.cell? ⟨w.heap.size, j, none⟩ = some v) ∧ W.heap[w.heap.size + 1]? = some (.cells #[.int .i64 0, .int .i64 0, .string ⟨#[]⟩, .slice none 0 0, .slice none 0 0] 25 (0, 0))) := by
  intro ks' js vk vl W h
  have e1 := h.size
  have e2 := h.szB
  refine ⟨hE.carry fun k hk => ⟨hk, ?_⟩, fun k hk => by have := hO k hk; omega, fun j v hj => ?_, ?_⟩
  · have := hO k hk
    exact (h.keep.block k (by omega) (by unfold One; omega)).trans (hbw.block k this)
  · exact cell_row ((h.keep.block _ (by omega) (by unfold One; omega)).trans q3) j v hj
  · exact (h.keep.block _ (by omega) (by unfold One; omega)).trans q2
 have a11 := (HE.out htiB).2.2.1 11 _ rfl
 have hti0 : TI O (w.heap.size + 3) (w.heap.size + 2) 5 WB [] [] (.slice none 0 0) (.slice none 0 0) (((w.alloc (.cells #[.string room, .string typ, .string sender, .bool true, .string key, .int .i64 k, .int .i64 i, .string t, .slice pk ks.length ck, .slice pl l.length cl, .slice pp prev.length cp, .slice pa auth.length ca, .int .i64 depth, .int .i64 ts, .string hash, .slice ps sigs.length cs] 28)).alloc (.cells #[.int .i64 0, .int .i64 0, .string ⟨#[]⟩, .slice none 0 0, .slice none 0 0] 25)).alloc (.cells #[.int .i64 5, .int .i64 0, .string ⟨#[]⟩, .slice none 0 0, .slice none 0 0] 25)) := by rw [← hWB]; exact htiB
 rw [hWB] at a11
 clear q1 q2 q3 hWB hE htiB
 go_enter Tryz.func79, Tryz.ntmps79
 go_wp2_with (first
  | (go_at_call 114; refine (eput_any hu10 (eisJ_text _ _ typ) (by simp) (by simp) _).mono ?_; rintro x W11 ⟨rfl, vk11, vl11, hti11⟩
     obtain ⟨q1, m1, c1, hvk⟩ : ∃ q m c, vk11 = .slice q m c := by
      obtain ⟨q, c, h⟩ := own_sl hti11.keys
      exact ⟨q, _, c, h⟩
     obtain ⟨q2, m2, c2, hvl⟩ : ∃ q m c, vl11 = .slice q m c := by
      obtain ⟨xs, hv1, _⟩ := hti11.vals
      obtain ⟨q, c, h⟩ := own_sl hv1
      exact ⟨q, _, c, h⟩
     subst hvk hvl
     have hob : W11.heap[w.heap.size + 1 + 1]? = some (.cells #[.int .i64 5, .int .i64 0, .string ⟨#[]⟩, .slice q1 m1 c1, .slice q2 m2 c2] 25 (0, 0)) := hti11.obj
     have hrs := (HE.out hti11).2.2.2
     have j0 := five_c0 hob; have j1 := five_c1 hob; have j2 := five_c2 hob; have j3 := five_c3 hob; have j4 := five_c4 hob
     have i0 := five_c0 hrs; have i1 := five_c1 hrs; have i2 := five_c2 hrs; have i3 := five_c3 hrs; have i4 := five_c4 hrs
     have z0 := five_fz hrs 0; have z1 := five_fz hrs 1; have z2 := five_fz hrs 2; have z3 := five_fz hrs 3; have z4 := five_fz hrs 4)
  | (go_at_call 117; have _g := hti10; refine (etext_any typ _).mono ?_; rintro x v10 ⟨rfl, hb10⟩
     have hu10 := hti10.more hb10)
  | (go_at_call 114; refine (eput_any hu9 (isJ_num _ _ ts) (by simp) (by simp) _).mono ?_; rintro x W10 ⟨rfl, vk10, vl10, hti10⟩
     have a1 := (HE.out hti10).2.2.1 1 _ rfl)
  | (go_at_call 116; have _g := hti9; refine (enumber_any ts _).mono ?_; rintro x v9 ⟨rfl, hb9⟩
     have hu9 := hti9.more hb9)
  | (go_at_call 114; refine (eput_any hu8 hy8 (by simp) (by simp) _).mono ?_; rintro x W9 ⟨rfl, vk9, vl9, hti9⟩
     have a13 := (HE.out hti9).2.2.1 13 _ rfl)
  | (go_at_call 118; refine (tokens_any (HE.out hti8).1.sigs (HE.out hti8).2.1 h3).mono ?_; rintro x v8 ⟨⟨pk8, nk8, ck8, pl8, nl8, cl8, rfl, hj8⟩, hb8⟩
     have hu8 := hti8.more hb8
     have hy8 := hti8.fresh hb8 (new_in hj8))
  | (go_at_call 114; refine (eput_any hu7 (eisJ_text _ _ sender) (by simp) (by simp) _).mono ?_; rintro x W8 ⟨rfl, vk8, vl8, hti8⟩
     have a15 := (HE.out hti8).2.2.1 15 _ rfl)
  | (go_at_call 117; have _g := hti7; refine (etext_any sender _).mono ?_; rintro x v7 ⟨rfl, hb7⟩
     have hu7 := hti7.more hb7)
  | (go_at_call 114; refine (eput_any hu6 (eisJ_text _ _ room) (by simp) (by simp) _).mono ?_; rintro x W7 ⟨rfl, vk7, vl7, hti7⟩
     have a2 := (HE.out hti7).2.2.1 2 _ rfl)
  | (go_at_call 117; have _g := hti6; refine (etext_any room _).mono ?_; rintro x v6 ⟨rfl, hb6⟩
     have hu6 := hti6.more hb6)
  | (go_at_call 114; refine (eput_any hu5 hy5 (by simp) (by simp) _).mono ?_; rintro x W6 ⟨rfl, vk6, vl6, hti6⟩
     have a0 := (HE.out hti6).2.2.1 0 _ rfl)
  | (go_at_call 115; refine (etexts_any (HE.out hti5).1.prev (HE.out hti5).2.1 h1).mono ?_; rintro x v5 ⟨⟨pl5, nl5, cl5, rfl, hj5⟩, hb5⟩
     have hu5 := hti5.more hb5
     have hy5 := hti5.fresh hb5 (new_in hj5))
  | (go_at_call 114; refine (eput_any hu4 (eisJ_text _ _ key) (by simp) (by simp) _).mono ?_; rintro x W5 ⟨rfl, vk5, vl5, hti5⟩
     have a10 := (HE.out hti5).2.2.1 10 _ rfl)
  | (go_at_call 117; have _g := hti4; refine (etext_any key _).mono ?_; rintro x v4 ⟨rfl, hb4⟩
     have hu4 := hti4.more hb4)
  | (go_at_call 114; refine (eput_any hu3 (eisJ_text _ _ hash) (by simp) (by simp) _).mono ?_; rintro x W4 ⟨rfl, vk4, vl4, hti4⟩
     have a4 := (HE.out hti4).2.2.1 4 _ rfl
     have a3 := (HE.out hti4).2.2.1 3 _ rfl)
  | (go_at_call 117; have _g := hti3; refine (etext_any hash _).mono ?_; rintro x v3 ⟨rfl, hb3⟩
     have hu3 := hti3.more hb3)
  | (go_at_call 114; refine (eput_any hu2 (isJ_num _ _ depth) (by simp) (by simp) _).mono ?_; rintro x W3 ⟨rfl, vk3, vl3, hti3⟩
     have a14 := (HE.out hti3).2.2.1 14 _ rfl)
  | (go_at_call 116; have _g := hti2; refine (enumber_any depth _).mono ?_; rintro x v2 ⟨rfl, hb2⟩
     have hu2 := hti2.more hb2)
  | (go_at_call 114; refine (eput_any hti1 ((HE.out hti1).1.cont.carry fun k hk => ⟨.inl hk, rfl⟩) (by simp) (by simp) _).mono ?_; rintro x W2 ⟨rfl, vk2, vl2, hti2⟩
     have a12 := (HE.out hti2).2.2.1 12 _ rfl)
  | (go_at_call 114; refine (eput_any hu0 hy0 (by simp) (by simp) _).mono ?_; rintro x W1 ⟨rfl, vk1, vl1, hti1⟩
     have a5 := (HE.out hti1).2.2.1 5 _ rfl
     have a6 := (HE.out hti1).2.2.1 6 _ rfl
     have a7 := (HE.out hti1).2.2.1 7 _ rfl
     have a8 := (HE.out hti1).2.2.1 8 _ rfl
     have a9 := (HE.out hti1).2.2.1 9 _ rfl)
  | (go_at_call 115; refine (etexts_any (HE.out hti0).1.auth (HE.out hti0).2.1 h2).mono ?_; rintro x v0 ⟨⟨pl0, nl0, cl0, rfl, hj0⟩, hb0⟩
     have hu0 := hti0.more hb0
     have hy0 := hti0.fresh hb0 (new_in hj0)))
 have h5 := set5_heap hrs (.int .i64 5) (.int .i64 0) (.string ⟨#[]⟩) (.slice q1 m1 c1) (.slice q2 m2 c2)
 have HK5 : Keep (One (w.heap.size + 1)) W11 _ := set5_keep W11 (w.heap.size + 1) (.int .i64 5) (.int .i64 0) (.string ⟨#[]⟩) (.slice q1 m1 c1) (.slice q2 m2 c2)
 unfold set5 at h5 HK5
 have k0 := five_c0 h5; have k1 := five_c1 h5; have k2 := five_c2 h5; have k3 := five_c3 h5; have k4 := five_c4 h5
 refine bodyPost_ret (v := .agg #[.int .i64 5, .int .i64 0, .string ⟨#[]⟩, .slice q1 m1 c1, .slice q2 m2 c2]) (by simp [results, Tryz.results79, go_sem, k0, k1, k2, k3, k4]) rfl ?_
 obtain ⟨r1, r2⟩ := hti11.end hO hbw HK5
 exact ⟨⟨_, _, _, _, _, _, rfl, r1⟩, r2⟩
theorem told_false {O : Nat → Prop} (room typ sender key : ByteArray) (k i : Int) (t : ByteArray) (ks : List ByteArray) (l : List J) (prev auth : List ByteArray) (depth ts : Int) (hash : ByteArray) (sigs : List (ByteArray × ByteArray)) (pk : Option Addr) (ck : Nat) (pl : Option Addr) (cl : Nat) (pp : Option Addr) (cp : Nat) (pa : Option Addr) (ca : Nat) (ps : Option Addr) (cs : Nat) (w : World)
    (hE : IsE O w ⟨room, typ, sender, false, key, ⟨k, i, t, ks, l⟩, prev, auth, depth, ts, hash, sigs⟩ ⟨pk, ck, pl, cl, pp, cp, pa, ca, ps, cs⟩) (hO : ∀ k, O k → k < w.heap.size) (h1 : prev.length ≤ 100000) (h2 : auth.length ≤ 100000) (h3 : sigs.length ≤ 100000) :
    Calls Tryz.prog 79 #[.agg #[.string room, .string typ, .string sender, .bool false, .string key, .int .i64 k, .int .i64 i, .string t, .slice pk ks.length ck, .slice pl l.length cl, .slice pp prev.length cp, .slice pa auth.length ca, .int .i64 depth, .int .i64 ts, .string hash, .slice ps sigs.length cs]] w fun x w' => (∃ pk nk ck pl nl cl, x = .returned (.agg #[.int .i64 5, .int .i64 0, .string nix, .slice pk nk ck, .slice pl nl cl]) ∧ isJ (fun k => O k ∨ New w w' k) w' (toldJ ⟨room, typ, sender, false, key, ⟨k, i, t, ks, l⟩, prev, auth, depth, ts, hash, sigs⟩) [.int .i64 5, .int .i64 0, .string nix, .slice pk nk ck, .slice pl nl cl]) ∧ Below w.heap.size w w' := by
 obtain ⟨WB, hWB⟩ : ∃ WB, WB = ((w.alloc (.cells #[.string room, .string typ, .string sender, .bool false, .string key, .int .i64 k, .int .i64 i, .string t, .slice pk ks.length ck, .slice pl l.length cl, .slice pp prev.length cp, .slice pa auth.length ca, .int .i64 depth, .int .i64 ts, .string hash, .slice ps sigs.length cs] 28)).alloc (.cells #[.int .i64 0, .int .i64 0, .string ⟨#[]⟩, .slice none 0 0, .slice none 0 0] 25)).alloc (.cells #[.int .i64 5, .int .i64 0, .string ⟨#[]⟩, .slice none 0 0, .slice none 0 0] 25) := ⟨_, rfl⟩
 have hbw : Below w.heap.size w WB := by rw [hWB]; exact (((Below.refl _ _).alloc (Nat.le_refl _) _).alloc (by simp) _).alloc (by simp; omega) _
 obtain ⟨q1, q2, q3⟩ := three_at (w := w) (.cells #[.string room, .string typ, .string sender, .bool false, .string key, .int .i64 k, .int .i64 i, .string t, .slice pk ks.length ck, .slice pl l.length cl, .slice pp prev.length cp, .slice pa auth.length ca, .int .i64 depth, .int .i64 ts, .string hash, .slice ps sigs.length cs] 28) (.cells #[.int .i64 0, .int .i64 0, .string ⟨#[]⟩, .slice none 0 0, .slice none 0 0] 25) (.cells #[.int .i64 5, .int .i64 0, .string ⟨#[]⟩, .slice none 0 0, .slice none 0 0] 25)
 rw [← hWB] at q1 q2 q3
 have htiB : TI O (w.heap.size + 3) (w.heap.size + 2) 5 WB [] [] (.slice none 0 0) (.slice none 0 0) WB := TI.start (by rw [hWB]; simp) (by omega) (fun k h => by have := hO k h; omega) q1
 have HE : Hid (∀ {ks' : List ByteArray} {js : List J} {vk vl : Value} {W : World}, TI O (w.heap.size + 3) (w.heap.size + 2) 5 WB ks' js vk vl W → IsE O W ⟨room, typ, sender, false, key, ⟨k, i, t, ks, l⟩, prev, auth, depth, ts, hash, sigs⟩ ⟨pk, ck, pl, cl, pp, cp, pa, ca, ps, cs⟩ ∧ (∀ k, O k → k < W.heap.size) ∧ (∀ j v, [.string room, .string typ, .string sender, .bool false, .string key, .int .i64 k, .int .i64 i, .string t, .slice pk ks.length ck, .slice pl l.length cl, .slice pp prev.length cp, .slice pa auth.length ca, .int .i64 depth, .int .i64 ts, .string hash, .slice ps sigs.length cs][j]? = some v → W.cell? ⟨w.heap.size, j, none⟩ = some v) ∧ W.heap[w.heap.size + 1]? = some (.cells #[.int .i64 0, .int .i64 0, .string ⟨#[]⟩, .slice none 0 0, .slice none 0 0] 25 (0, 0))) := by
  intro ks' js vk vl W h
  have e1 := h.size
  have e2 := h.szB
  refine ⟨hE.carry fun k hk => ⟨hk, ?_⟩, fun k hk => by have := hO k hk; omega, fun j v hj => ?_, ?_⟩
  · have := hO k hk
    exact (h.keep.block k (by omega) (by unfold One; omega)).trans (hbw.block k this)
  · exact cell_row ((h.keep.block _ (by omega) (by unfold One; omega)).trans q3) j v hj
  · exact (h.keep.block _ (by omega) (by unfold One; omega)).trans q2
 have a11 := (HE.out htiB).2.2.1 11 _ rfl
 have hti0 : TI O (w.heap.size + 3) (w.heap.size + 2) 5 WB [] [] (.slice none 0 0) (.slice none 0 0) (((w.alloc (.cells #[.string room, .string typ, .string sender, .bool false, .string key, .int .i64 k, .int .i64 i, .string t, .slice pk ks.length ck, .slice pl l.length cl, .slice pp prev.length cp, .slice pa auth.length ca, .int .i64 depth, .int .i64 ts, .string hash, .slice ps sigs.length cs] 28)).alloc (.cells #[.int .i64 0, .int .i64 0, .string ⟨#[]⟩, .slice none 0 0, .slice none 0 0] 25)).alloc (.cells #[.int .i64 5, .int .i64 0, .string ⟨#[]⟩, .slice none 0 0, .slice none 0 0] 25)) := by rw [← hWB]; exact htiB
 rw [hWB] at a11
 clear q1 q2 q3 hWB hE htiB
 go_enter Tryz.func79, Tryz.ntmps79
 go_wp2_with (first
  | (go_at_call 114; refine (eput_any hu9 (eisJ_text _ _ typ) (by simp) (by simp) _).mono ?_; rintro x W10 ⟨rfl, vk10, vl10, hti10⟩
     obtain ⟨q1, m1, c1, hvk⟩ : ∃ q m c, vk10 = .slice q m c := by
      obtain ⟨q, c, h⟩ := own_sl hti10.keys
      exact ⟨q, _, c, h⟩
     obtain ⟨q2, m2, c2, hvl⟩ : ∃ q m c, vl10 = .slice q m c := by
      obtain ⟨xs, hv1, _⟩ := hti10.vals
      obtain ⟨q, c, h⟩ := own_sl hv1
      exact ⟨q, _, c, h⟩
     subst hvk hvl
     have hob : W10.heap[w.heap.size + 1 + 1]? = some (.cells #[.int .i64 5, .int .i64 0, .string ⟨#[]⟩, .slice q1 m1 c1, .slice q2 m2 c2] 25 (0, 0)) := hti10.obj
     have hrs := (HE.out hti10).2.2.2
     have j0 := five_c0 hob; have j1 := five_c1 hob; have j2 := five_c2 hob; have j3 := five_c3 hob; have j4 := five_c4 hob
     have i0 := five_c0 hrs; have i1 := five_c1 hrs; have i2 := five_c2 hrs; have i3 := five_c3 hrs; have i4 := five_c4 hrs
     have z0 := five_fz hrs 0; have z1 := five_fz hrs 1; have z2 := five_fz hrs 2; have z3 := five_fz hrs 3; have z4 := five_fz hrs 4)
  | (go_at_call 117; have _g := hti9; refine (etext_any typ _).mono ?_; rintro x v9 ⟨rfl, hb9⟩
     have hu9 := hti9.more hb9)
  | (go_at_call 114; refine (eput_any hu8 (isJ_num _ _ ts) (by simp) (by simp) _).mono ?_; rintro x W9 ⟨rfl, vk9, vl9, hti9⟩
     have a1 := (HE.out hti9).2.2.1 1 _ rfl)
  | (go_at_call 116; have _g := hti8; refine (enumber_any ts _).mono ?_; rintro x v8 ⟨rfl, hb8⟩
     have hu8 := hti8.more hb8)
  | (go_at_call 114; refine (eput_any hu7 hy7 (by simp) (by simp) _).mono ?_; rintro x W8 ⟨rfl, vk8, vl8, hti8⟩
     have a13 := (HE.out hti8).2.2.1 13 _ rfl)
  | (go_at_call 118; refine (tokens_any (HE.out hti7).1.sigs (HE.out hti7).2.1 h3).mono ?_; rintro x v7 ⟨⟨pk7, nk7, ck7, pl7, nl7, cl7, rfl, hj7⟩, hb7⟩
     have hu7 := hti7.more hb7
     have hy7 := hti7.fresh hb7 (new_in hj7))
  | (go_at_call 114; refine (eput_any hu6 (eisJ_text _ _ sender) (by simp) (by simp) _).mono ?_; rintro x W7 ⟨rfl, vk7, vl7, hti7⟩
     have a15 := (HE.out hti7).2.2.1 15 _ rfl)
  | (go_at_call 117; have _g := hti6; refine (etext_any sender _).mono ?_; rintro x v6 ⟨rfl, hb6⟩
     have hu6 := hti6.more hb6)
  | (go_at_call 114; refine (eput_any hu5 (eisJ_text _ _ room) (by simp) (by simp) _).mono ?_; rintro x W6 ⟨rfl, vk6, vl6, hti6⟩
     have a2 := (HE.out hti6).2.2.1 2 _ rfl)
  | (go_at_call 117; have _g := hti5; refine (etext_any room _).mono ?_; rintro x v5 ⟨rfl, hb5⟩
     have hu5 := hti5.more hb5)
  | (go_at_call 114; refine (eput_any hu4 hy4 (by simp) (by simp) _).mono ?_; rintro x W5 ⟨rfl, vk5, vl5, hti5⟩
     have a0 := (HE.out hti5).2.2.1 0 _ rfl)
  | (go_at_call 115; refine (etexts_any (HE.out hti4).1.prev (HE.out hti4).2.1 h1).mono ?_; rintro x v4 ⟨⟨pl4, nl4, cl4, rfl, hj4⟩, hb4⟩
     have hu4 := hti4.more hb4
     have hy4 := hti4.fresh hb4 (new_in hj4))
  | (go_at_call 114; refine (eput_any hu3 (eisJ_text _ _ hash) (by simp) (by simp) _).mono ?_; rintro x W4 ⟨rfl, vk4, vl4, hti4⟩
     have a10 := (HE.out hti4).2.2.1 10 _ rfl
     have a3 := (HE.out hti4).2.2.1 3 _ rfl)
  | (go_at_call 117; have _g := hti3; refine (etext_any hash _).mono ?_; rintro x v3 ⟨rfl, hb3⟩
     have hu3 := hti3.more hb3)
  | (go_at_call 114; refine (eput_any hu2 (isJ_num _ _ depth) (by simp) (by simp) _).mono ?_; rintro x W3 ⟨rfl, vk3, vl3, hti3⟩
     have a14 := (HE.out hti3).2.2.1 14 _ rfl)
  | (go_at_call 116; have _g := hti2; refine (enumber_any depth _).mono ?_; rintro x v2 ⟨rfl, hb2⟩
     have hu2 := hti2.more hb2)
  | (go_at_call 114; refine (eput_any hti1 ((HE.out hti1).1.cont.carry fun k hk => ⟨.inl hk, rfl⟩) (by simp) (by simp) _).mono ?_; rintro x W2 ⟨rfl, vk2, vl2, hti2⟩
     have a12 := (HE.out hti2).2.2.1 12 _ rfl)
  | (go_at_call 114; refine (eput_any hu0 hy0 (by simp) (by simp) _).mono ?_; rintro x W1 ⟨rfl, vk1, vl1, hti1⟩
     have a5 := (HE.out hti1).2.2.1 5 _ rfl
     have a6 := (HE.out hti1).2.2.1 6 _ rfl
     have a7 := (HE.out hti1).2.2.1 7 _ rfl
     have a8 := (HE.out hti1).2.2.1 8 _ rfl
     have a9 := (HE.out hti1).2.2.1 9 _ rfl)
  | (go_at_call 115; refine (etexts_any (HE.out hti0).1.auth (HE.out hti0).2.1 h2).mono ?_; rintro x v0 ⟨⟨pl0, nl0, cl0, rfl, hj0⟩, hb0⟩
     have hu0 := hti0.more hb0
     have hy0 := hti0.fresh hb0 (new_in hj0)))
 have h5 := set5_heap hrs (.int .i64 5) (.int .i64 0) (.string ⟨#[]⟩) (.slice q1 m1 c1) (.slice q2 m2 c2)
 have HK5 : Keep (One (w.heap.size + 1)) W10 _ := set5_keep W10 (w.heap.size + 1) (.int .i64 5) (.int .i64 0) (.string ⟨#[]⟩) (.slice q1 m1 c1) (.slice q2 m2 c2)
 unfold set5 at h5 HK5
 have k0 := five_c0 h5; have k1 := five_c1 h5; have k2 := five_c2 h5; have k3 := five_c3 h5; have k4 := five_c4 h5
 refine bodyPost_ret (v := .agg #[.int .i64 5, .int .i64 0, .string ⟨#[]⟩, .slice q1 m1 c1, .slice q2 m2 c2]) (by simp [results, Tryz.results79, go_sem, k0, k1, k2, k3, k4]) rfl ?_
 obtain ⟨r1, r2⟩ := hti10.end hO hbw HK5
 exact ⟨⟨_, _, _, _, _, _, rfl, r1⟩, r2⟩
structure Tabs (w : World) : Prop where
 pow : Tab w.heap.size w
 utf : UTab w.heap.size w
theorem Tabs.below {w w' : World} (h : Tabs w) (hb : Below w.heap.size w w') : Tabs w' := ⟨fun w2 h2 => h.pow w2 (below_in hb h2), h.utf.below hb⟩
structure ShC (room typ sender : ByteArray) (st : Bool) (key : ByteArray) (k i : Int) (t : ByteArray) (ks : List ByteArray) (l : List J) (prev auth : List ByteArray) (depth ts : Int) (hash : ByteArray) (sigs : List (ByteArray × ByteArray)) (pk : Option Addr) (ck : Nat) (pl : Option Addr) (cl : Nat) (pp : Option Addr) (cp : Nat) (pa : Option Addr) (ca : Nat) (ps : Option Addr) (cs : Nat) (w : World) : Prop where
 cells : ∀ W, Below (w.alloc (.cells #[.string room, .string typ, .string sender, .bool st, .string key, .int .i64 k, .int .i64 i, .string t, .slice pk ks.length ck, .slice pl l.length cl, .slice pp prev.length cp, .slice pa auth.length ca, .int .i64 depth, .int .i64 ts, .string hash, .slice ps sigs.length cs] 28)).heap.size (w.alloc (.cells #[.string room, .string typ, .string sender, .bool st, .string key, .int .i64 k, .int .i64 i, .string t, .slice pk ks.length ck, .slice pl l.length cl, .slice pp prev.length cp, .slice pa auth.length ca, .int .i64 depth, .int .i64 ts, .string hash, .slice ps sigs.length cs] 28)) W → ∀ j v, [.string room, .string typ, .string sender, .bool st, .string key, .int .i64 k, .int .i64 i, .string t, .slice pk ks.length ck, .slice pl l.length cl, .slice pp prev.length cp, .slice pa auth.length ca, .int .i64 depth, .int .i64 ts, .string hash, .slice ps sigs.length cs][j]? = some v → W.cell? ⟨w.heap.size, j, none⟩ = some v
 below : Below w.heap.size w (w.alloc (.cells #[.string room, .string typ, .string sender, .bool st, .string key, .int .i64 k, .int .i64 i, .string t, .slice pk ks.length ck, .slice pl l.length cl, .slice pp prev.length cp, .slice pa auth.length ca, .int .i64 depth, .int .i64 ts, .string hash, .slice ps sigs.length cs] 28))
 h0 : ∀ W, Below (w.alloc (.cells #[.string room, .string typ, .string sender, .bool st, .string key, .int .i64 k, .int .i64 i, .string t, .slice pk ks.length ck, .slice pl l.length cl, .slice pp prev.length cp, .slice pa auth.length ca, .int .i64 depth, .int .i64 ts, .string hash, .slice ps sigs.length cs] 28)).heap.size (w.alloc (.cells #[.string room, .string typ, .string sender, .bool st, .string key, .int .i64 k, .int .i64 i, .string t, .slice pk ks.length ck, .slice pl l.length cl, .slice pp prev.length cp, .slice pa auth.length ca, .int .i64 depth, .int .i64 ts, .string hash, .slice ps sigs.length cs] 28)) W → Calls Tryz.prog 103 #[.agg #[.string room, .string typ, .string sender, .bool st, .string key, .int .i64 k, .int .i64 i, .string t, .slice pk ks.length ck, .slice pl l.length cl, .slice pp prev.length cp, .slice pa auth.length ca, .int .i64 depth, .int .i64 ts, .string hash, .slice ps sigs.length cs]] W fun x w' => x = .returned (.bool (placedE ⟨room, typ, sender, st, key, ⟨k, i, t, ks, l⟩, prev, auth, depth, ts, hash, sigs⟩)) ∧ Below W.heap.size W w'
 h1 : ∀ W, Below (w.alloc (.cells #[.string room, .string typ, .string sender, .bool st, .string key, .int .i64 k, .int .i64 i, .string t, .slice pk ks.length ck, .slice pl l.length cl, .slice pp prev.length cp, .slice pa auth.length ca, .int .i64 depth, .int .i64 ts, .string hash, .slice ps sigs.length cs] 28)).heap.size (w.alloc (.cells #[.string room, .string typ, .string sender, .bool st, .string key, .int .i64 k, .int .i64 i, .string t, .slice pk ks.length ck, .slice pl l.length cl, .slice pp prev.length cp, .slice pa auth.length ca, .int .i64 depth, .int .i64 ts, .string hash, .slice ps sigs.length cs] 28)) W → Calls Tryz.prog 104 #[.agg #[.string room, .string typ, .string sender, .bool st, .string key, .int .i64 k, .int .i64 i, .string t, .slice pk ks.length ck, .slice pl l.length cl, .slice pp prev.length cp, .slice pa auth.length ca, .int .i64 depth, .int .i64 ts, .string hash, .slice ps sigs.length cs]] W fun x w' => x = .returned (.bool (keyedE ⟨room, typ, sender, st, key, ⟨k, i, t, ks, l⟩, prev, auth, depth, ts, hash, sigs⟩)) ∧ Below W.heap.size W w'
 h2 : ∀ W, Below (w.alloc (.cells #[.string room, .string typ, .string sender, .bool st, .string key, .int .i64 k, .int .i64 i, .string t, .slice pk ks.length ck, .slice pl l.length cl, .slice pp prev.length cp, .slice pa auth.length ca, .int .i64 depth, .int .i64 ts, .string hash, .slice ps sigs.length cs] 28)).heap.size (w.alloc (.cells #[.string room, .string typ, .string sender, .bool st, .string key, .int .i64 k, .int .i64 i, .string t, .slice pk ks.length ck, .slice pl l.length cl, .slice pp prev.length cp, .slice pa auth.length ca, .int .i64 depth, .int .i64 ts, .string hash, .slice ps sigs.length cs] 28)) W → Calls Tryz.prog 105 #[.agg #[.int .i64 k, .int .i64 i, .string t, .slice pk ks.length ck, .slice pl l.length cl]] W fun x w' => x = .returned (.bool (filledE ⟨k, i, t, ks, l⟩)) ∧ Below W.heap.size W w'
 h3 : ∀ W, Below (w.alloc (.cells #[.string room, .string typ, .string sender, .bool st, .string key, .int .i64 k, .int .i64 i, .string t, .slice pk ks.length ck, .slice pl l.length cl, .slice pp prev.length cp, .slice pa auth.length ca, .int .i64 depth, .int .i64 ts, .string hash, .slice ps sigs.length cs] 28)).heap.size (w.alloc (.cells #[.string room, .string typ, .string sender, .bool st, .string key, .int .i64 k, .int .i64 i, .string t, .slice pk ks.length ck, .slice pl l.length cl, .slice pp prev.length cp, .slice pa auth.length ca, .int .i64 depth, .int .i64 ts, .string hash, .slice ps sigs.length cs] 28)) W → Calls Tryz.prog 106 #[.slice pp prev.length cp, .int .i64 20] W fun x w' => x = .returned (.bool (namedE 20 prev)) ∧ Below W.heap.size W w'
 h4 : ∀ W, Below (w.alloc (.cells #[.string room, .string typ, .string sender, .bool st, .string key, .int .i64 k, .int .i64 i, .string t, .slice pk ks.length ck, .slice pl l.length cl, .slice pp prev.length cp, .slice pa auth.length ca, .int .i64 depth, .int .i64 ts, .string hash, .slice ps sigs.length cs] 28)).heap.size (w.alloc (.cells #[.string room, .string typ, .string sender, .bool st, .string key, .int .i64 k, .int .i64 i, .string t, .slice pk ks.length ck, .slice pl l.length cl, .slice pp prev.length cp, .slice pa auth.length ca, .int .i64 depth, .int .i64 ts, .string hash, .slice ps sigs.length cs] 28)) W → Calls Tryz.prog 106 #[.slice pa auth.length ca, .int .i64 10] W fun x w' => x = .returned (.bool (namedE 10 auth)) ∧ Below W.heap.size W w'
 h5 : ∀ W, Below (w.alloc (.cells #[.string room, .string typ, .string sender, .bool st, .string key, .int .i64 k, .int .i64 i, .string t, .slice pk ks.length ck, .slice pl l.length cl, .slice pp prev.length cp, .slice pa auth.length ca, .int .i64 depth, .int .i64 ts, .string hash, .slice ps sigs.length cs] 28)).heap.size (w.alloc (.cells #[.string room, .string typ, .string sender, .bool st, .string key, .int .i64 k, .int .i64 i, .string t, .slice pk ks.length ck, .slice pl l.length cl, .slice pp prev.length cp, .slice pa auth.length ca, .int .i64 depth, .int .i64 ts, .string hash, .slice ps sigs.length cs] 28)) W → Calls Tryz.prog 107 #[.int .i64 depth, .int .i64 1099511627776] W fun x w' => x = .returned (.bool (withinE depth 1099511627776)) ∧ Below W.heap.size W w'
 h6 : ∀ W, Below (w.alloc (.cells #[.string room, .string typ, .string sender, .bool st, .string key, .int .i64 k, .int .i64 i, .string t, .slice pk ks.length ck, .slice pl l.length cl, .slice pp prev.length cp, .slice pa auth.length ca, .int .i64 depth, .int .i64 ts, .string hash, .slice ps sigs.length cs] 28)).heap.size (w.alloc (.cells #[.string room, .string typ, .string sender, .bool st, .string key, .int .i64 k, .int .i64 i, .string t, .slice pk ks.length ck, .slice pl l.length cl, .slice pp prev.length cp, .slice pa auth.length ca, .int .i64 depth, .int .i64 ts, .string hash, .slice ps sigs.length cs] 28)) W → Calls Tryz.prog 107 #[.int .i64 ts, .int .i64 9007199254740991] W fun x w' => x = .returned (.bool (withinE ts maxInt)) ∧ Below W.heap.size W w'
 h7 : ∀ W, Below (w.alloc (.cells #[.string room, .string typ, .string sender, .bool st, .string key, .int .i64 k, .int .i64 i, .string t, .slice pk ks.length ck, .slice pl l.length cl, .slice pp prev.length cp, .slice pa auth.length ca, .int .i64 depth, .int .i64 ts, .string hash, .slice ps sigs.length cs] 28)).heap.size (w.alloc (.cells #[.string room, .string typ, .string sender, .bool st, .string key, .int .i64 k, .int .i64 i, .string t, .slice pk ks.length ck, .slice pl l.length cl, .slice pp prev.length cp, .slice pa auth.length ca, .int .i64 depth, .int .i64 ts, .string hash, .slice ps sigs.length cs] 28)) W → Calls Tryz.prog 108 #[.string hash] W fun x w' => x = .returned (.bool (digestE hash)) ∧ Below W.heap.size W w'
 h8 : ∀ W, Below (w.alloc (.cells #[.string room, .string typ, .string sender, .bool st, .string key, .int .i64 k, .int .i64 i, .string t, .slice pk ks.length ck, .slice pl l.length cl, .slice pp prev.length cp, .slice pa auth.length ca, .int .i64 depth, .int .i64 ts, .string hash, .slice ps sigs.length cs] 28)).heap.size (w.alloc (.cells #[.string room, .string typ, .string sender, .bool st, .string key, .int .i64 k, .int .i64 i, .string t, .slice pk ks.length ck, .slice pl l.length cl, .slice pp prev.length cp, .slice pa auth.length ca, .int .i64 depth, .int .i64 ts, .string hash, .slice ps sigs.length cs] 28)) W → Calls Tryz.prog 109 #[.slice ps sigs.length cs] W fun x w' => x = .returned (.bool (signedE sigs)) ∧ Below W.heap.size W w'
theorem shaped_p0 (room typ sender : ByteArray) (st : Bool) (key : ByteArray) (k i : Int) (t : ByteArray) (ks : List ByteArray) (l : List J) (prev auth : List ByteArray) (depth ts : Int) (hash : ByteArray) (sigs : List (ByteArray × ByteArray)) (pk : Option Addr) (ck : Nat) (pl : Option Addr) (cl : Nat) (pp : Option Addr) (cp : Nat) (pa : Option Addr) (ca : Nat) (ps : Option Addr) (cs : Nat) (w : World) (X : ShC room typ sender st key k i t ks l prev auth depth ts hash sigs pk ck pl cl pp cp pa ca ps cs w) (e0 : placedE ⟨room, typ, sender, st, key, ⟨k, i, t, ks, l⟩, prev, auth, depth, ts, hash, sigs⟩ = false) :
    Calls Tryz.prog 77 #[.agg #[.string room, .string typ, .string sender, .bool st, .string key, .int .i64 k, .int .i64 i, .string t, .slice pk ks.length ck, .slice pl l.length cl, .slice pp prev.length cp, .slice pa auth.length ca, .int .i64 depth, .int .i64 ts, .string hash, .slice ps sigs.length cs]] w fun x w' => x = .returned (.bool (shapedE ⟨room, typ, sender, st, key, ⟨k, i, t, ks, l⟩, prev, auth, depth, ts, hash, sigs⟩)) ∧ Below w.heap.size w w' := by
 have HS : Hid (shapedE ⟨room, typ, sender, st, key, ⟨k, i, t, ks, l⟩, prev, auth, depth, ts, hash, sigs⟩ = false) := by
  show _ = _
  unfold shapedE
  simp only [e0]
  simp
 have H0 := X.h0 _ (Below.refl _ _)
 rw [e0] at H0
 have HC := X.cells
 have HBA : Hid (Below w.heap.size w (w.alloc (.cells #[.string room, .string typ, .string sender, .bool st, .string key, .int .i64 k, .int .i64 i, .string t, .slice pk ks.length ck, .slice pl l.length cl, .slice pp prev.length cp, .slice pa auth.length ca, .int .i64 depth, .int .i64 ts, .string hash, .slice ps sigs.length cs] 28))) := X.below
 have GC : Hid _ := HC
 clear X HC e0
 go_enter Tryz.func77, Tryz.ntmps77
 go_wp2_with (first
  | (go_at_call 103; refine H0.mono ?_; rintro x w0 ⟨rfl, hb0⟩
     have g0 := hb0))
 go_ret
 exact ⟨ret_bool HS.out.symm, below_in HBA.out g0⟩
theorem shaped_p1 (room typ sender : ByteArray) (st : Bool) (key : ByteArray) (k i : Int) (t : ByteArray) (ks : List ByteArray) (l : List J) (prev auth : List ByteArray) (depth ts : Int) (hash : ByteArray) (sigs : List (ByteArray × ByteArray)) (pk : Option Addr) (ck : Nat) (pl : Option Addr) (cl : Nat) (pp : Option Addr) (cp : Nat) (pa : Option Addr) (ca : Nat) (ps : Option Addr) (cs : Nat) (w : World) (X : ShC room typ sender st key k i t ks l prev auth depth ts hash sigs pk ck pl cl pp cp pa ca ps cs w) (e0 : placedE ⟨room, typ, sender, st, key, ⟨k, i, t, ks, l⟩, prev, auth, depth, ts, hash, sigs⟩ = true) (e1 : keyedE ⟨room, typ, sender, st, key, ⟨k, i, t, ks, l⟩, prev, auth, depth, ts, hash, sigs⟩ = false) :
    Calls Tryz.prog 77 #[.agg #[.string room, .string typ, .string sender, .bool st, .string key, .int .i64 k, .int .i64 i, .string t, .slice pk ks.length ck, .slice pl l.length cl, .slice pp prev.length cp, .slice pa auth.length ca, .int .i64 depth, .int .i64 ts, .string hash, .slice ps sigs.length cs]] w fun x w' => x = .returned (.bool (shapedE ⟨room, typ, sender, st, key, ⟨k, i, t, ks, l⟩, prev, auth, depth, ts, hash, sigs⟩)) ∧ Below w.heap.size w w' := by
 have HS : Hid (shapedE ⟨room, typ, sender, st, key, ⟨k, i, t, ks, l⟩, prev, auth, depth, ts, hash, sigs⟩ = false) := by
  show _ = _
  unfold shapedE
  simp only [e0, e1]
  simp
 have H0 := X.h0 _ (Below.refl _ _)
 rw [e0] at H0
 have H1 := X.h1
 rw [e1] at H1
 have HC := X.cells
 have HBA : Hid (Below w.heap.size w (w.alloc (.cells #[.string room, .string typ, .string sender, .bool st, .string key, .int .i64 k, .int .i64 i, .string t, .slice pk ks.length ck, .slice pl l.length cl, .slice pp prev.length cp, .slice pa auth.length ca, .int .i64 depth, .int .i64 ts, .string hash, .slice ps sigs.length cs] 28))) := X.below
 have G1 : Hid _ := H1
 have GC : Hid _ := HC
 clear X HC e0 e1 H1
 go_enter Tryz.func77, Tryz.ntmps77
 go_wp2_with (first
  | (go_at_call 104; refine k1.mono ?_; rintro x w1 ⟨rfl, hb1⟩
     have g1 := below_in g0 hb1)
  | (go_at_call 103; refine H0.mono ?_; rintro x w0 ⟨rfl, hb0⟩
     have g0 := hb0
     have k1 := G1.out w0 g0
     have c0_0 := GC.out w0 g0 0 _ rfl
     have c0_1 := GC.out w0 g0 1 _ rfl
     have c0_2 := GC.out w0 g0 2 _ rfl
     have c0_3 := GC.out w0 g0 3 _ rfl
     have c0_4 := GC.out w0 g0 4 _ rfl
     have c0_5 := GC.out w0 g0 5 _ rfl
     have c0_6 := GC.out w0 g0 6 _ rfl
     have c0_7 := GC.out w0 g0 7 _ rfl
     have c0_8 := GC.out w0 g0 8 _ rfl
     have c0_9 := GC.out w0 g0 9 _ rfl
     have c0_10 := GC.out w0 g0 10 _ rfl
     have c0_11 := GC.out w0 g0 11 _ rfl
     have c0_12 := GC.out w0 g0 12 _ rfl
     have c0_13 := GC.out w0 g0 13 _ rfl
     have c0_14 := GC.out w0 g0 14 _ rfl
     have c0_15 := GC.out w0 g0 15 _ rfl))
 go_ret
 exact ⟨ret_bool HS.out.symm, below_in HBA.out g1⟩
theorem shaped_p2 (room typ sender : ByteArray) (st : Bool) (key : ByteArray) (k i : Int) (t : ByteArray) (ks : List ByteArray) (l : List J) (prev auth : List ByteArray) (depth ts : Int) (hash : ByteArray) (sigs : List (ByteArray × ByteArray)) (pk : Option Addr) (ck : Nat) (pl : Option Addr) (cl : Nat) (pp : Option Addr) (cp : Nat) (pa : Option Addr) (ca : Nat) (ps : Option Addr) (cs : Nat) (w : World) (X : ShC room typ sender st key k i t ks l prev auth depth ts hash sigs pk ck pl cl pp cp pa ca ps cs w) (e0 : placedE ⟨room, typ, sender, st, key, ⟨k, i, t, ks, l⟩, prev, auth, depth, ts, hash, sigs⟩ = true) (e1 : keyedE ⟨room, typ, sender, st, key, ⟨k, i, t, ks, l⟩, prev, auth, depth, ts, hash, sigs⟩ = true) (e2 : filledE ⟨k, i, t, ks, l⟩ = false) :
    Calls Tryz.prog 77 #[.agg #[.string room, .string typ, .string sender, .bool st, .string key, .int .i64 k, .int .i64 i, .string t, .slice pk ks.length ck, .slice pl l.length cl, .slice pp prev.length cp, .slice pa auth.length ca, .int .i64 depth, .int .i64 ts, .string hash, .slice ps sigs.length cs]] w fun x w' => x = .returned (.bool (shapedE ⟨room, typ, sender, st, key, ⟨k, i, t, ks, l⟩, prev, auth, depth, ts, hash, sigs⟩)) ∧ Below w.heap.size w w' := by
 have HS : Hid (shapedE ⟨room, typ, sender, st, key, ⟨k, i, t, ks, l⟩, prev, auth, depth, ts, hash, sigs⟩ = false) := by
  show _ = _
  unfold shapedE
  simp only [e0, e1, e2]
  simp
 have H0 := X.h0 _ (Below.refl _ _)
 rw [e0] at H0
 have H1 := X.h1
 rw [e1] at H1
 have H2 := X.h2
 rw [e2] at H2
 have HC := X.cells
 have HBA : Hid (Below w.heap.size w (w.alloc (.cells #[.string room, .string typ, .string sender, .bool st, .string key, .int .i64 k, .int .i64 i, .string t, .slice pk ks.length ck, .slice pl l.length cl, .slice pp prev.length cp, .slice pa auth.length ca, .int .i64 depth, .int .i64 ts, .string hash, .slice ps sigs.length cs] 28))) := X.below
 have G1 : Hid _ := H1
 have G2 : Hid _ := H2
 have GC : Hid _ := HC
 clear X HC e0 e1 e2 H1 H2
 go_enter Tryz.func77, Tryz.ntmps77
 go_wp2_with (first
  | (go_at_call 105; refine k2.mono ?_; rintro x w2 ⟨rfl, hb2⟩
     have g2 := below_in g1 hb2)
  | (go_at_call 104; refine k1.mono ?_; rintro x w1 ⟨rfl, hb1⟩
     have g1 := below_in g0 hb1
     have k2 := G2.out w1 g1
     have c1_5 := GC.out w1 g1 5 _ rfl
     have c1_6 := GC.out w1 g1 6 _ rfl
     have c1_7 := GC.out w1 g1 7 _ rfl
     have c1_8 := GC.out w1 g1 8 _ rfl
     have c1_9 := GC.out w1 g1 9 _ rfl)
  | (go_at_call 103; refine H0.mono ?_; rintro x w0 ⟨rfl, hb0⟩
     have g0 := hb0
     have k1 := G1.out w0 g0
     have c0_0 := GC.out w0 g0 0 _ rfl
     have c0_1 := GC.out w0 g0 1 _ rfl
     have c0_2 := GC.out w0 g0 2 _ rfl
     have c0_3 := GC.out w0 g0 3 _ rfl
     have c0_4 := GC.out w0 g0 4 _ rfl
     have c0_5 := GC.out w0 g0 5 _ rfl
     have c0_6 := GC.out w0 g0 6 _ rfl
     have c0_7 := GC.out w0 g0 7 _ rfl
     have c0_8 := GC.out w0 g0 8 _ rfl
     have c0_9 := GC.out w0 g0 9 _ rfl
     have c0_10 := GC.out w0 g0 10 _ rfl
     have c0_11 := GC.out w0 g0 11 _ rfl
     have c0_12 := GC.out w0 g0 12 _ rfl
     have c0_13 := GC.out w0 g0 13 _ rfl
     have c0_14 := GC.out w0 g0 14 _ rfl
     have c0_15 := GC.out w0 g0 15 _ rfl))
 go_ret
 exact ⟨ret_bool HS.out.symm, below_in HBA.out g2⟩
theorem shaped_p3 (room typ sender : ByteArray) (st : Bool) (key : ByteArray) (k i : Int) (t : ByteArray) (ks : List ByteArray) (l : List J) (prev auth : List ByteArray) (depth ts : Int) (hash : ByteArray) (sigs : List (ByteArray × ByteArray)) (pk : Option Addr) (ck : Nat) (pl : Option Addr) (cl : Nat) (pp : Option Addr) (cp : Nat) (pa : Option Addr) (ca : Nat) (ps : Option Addr) (cs : Nat) (w : World) (X : ShC room typ sender st key k i t ks l prev auth depth ts hash sigs pk ck pl cl pp cp pa ca ps cs w) (e0 : placedE ⟨room, typ, sender, st, key, ⟨k, i, t, ks, l⟩, prev, auth, depth, ts, hash, sigs⟩ = true) (e1 : keyedE ⟨room, typ, sender, st, key, ⟨k, i, t, ks, l⟩, prev, auth, depth, ts, hash, sigs⟩ = true) (e2 : filledE ⟨k, i, t, ks, l⟩ = true) (e3 : namedE 20 prev = false) :
    Calls Tryz.prog 77 #[.agg #[.string room, .string typ, .string sender, .bool st, .string key, .int .i64 k, .int .i64 i, .string t, .slice pk ks.length ck, .slice pl l.length cl, .slice pp prev.length cp, .slice pa auth.length ca, .int .i64 depth, .int .i64 ts, .string hash, .slice ps sigs.length cs]] w fun x w' => x = .returned (.bool (shapedE ⟨room, typ, sender, st, key, ⟨k, i, t, ks, l⟩, prev, auth, depth, ts, hash, sigs⟩)) ∧ Below w.heap.size w w' := by
 have HS : Hid (shapedE ⟨room, typ, sender, st, key, ⟨k, i, t, ks, l⟩, prev, auth, depth, ts, hash, sigs⟩ = false) := by
  show _ = _
  unfold shapedE
  simp only [e0, e1, e2, e3]
  simp
 have H0 := X.h0 _ (Below.refl _ _)
 rw [e0] at H0
 have H1 := X.h1
 rw [e1] at H1
 have H2 := X.h2
 rw [e2] at H2
 have H3 := X.h3
 rw [e3] at H3
 have HC := X.cells
 have HBA : Hid (Below w.heap.size w (w.alloc (.cells #[.string room, .string typ, .string sender, .bool st, .string key, .int .i64 k, .int .i64 i, .string t, .slice pk ks.length ck, .slice pl l.length cl, .slice pp prev.length cp, .slice pa auth.length ca, .int .i64 depth, .int .i64 ts, .string hash, .slice ps sigs.length cs] 28))) := X.below
 have G1 : Hid _ := H1
 have G2 : Hid _ := H2
 have G3 : Hid _ := H3
 have GC : Hid _ := HC
 clear X HC e0 e1 e2 e3 H1 H2 H3
 go_enter Tryz.func77, Tryz.ntmps77
 go_wp2_with (first
  | (go_at_call 106; refine k3.mono ?_; rintro x w3 ⟨rfl, hb3⟩
     have g3 := below_in g2 hb3)
  | (go_at_call 105; refine k2.mono ?_; rintro x w2 ⟨rfl, hb2⟩
     have g2 := below_in g1 hb2
     have k3 := G3.out w2 g2
     have c2_10 := GC.out w2 g2 10 _ rfl)
  | (go_at_call 104; refine k1.mono ?_; rintro x w1 ⟨rfl, hb1⟩
     have g1 := below_in g0 hb1
     have k2 := G2.out w1 g1
     have c1_5 := GC.out w1 g1 5 _ rfl
     have c1_6 := GC.out w1 g1 6 _ rfl
     have c1_7 := GC.out w1 g1 7 _ rfl
     have c1_8 := GC.out w1 g1 8 _ rfl
     have c1_9 := GC.out w1 g1 9 _ rfl)
  | (go_at_call 103; refine H0.mono ?_; rintro x w0 ⟨rfl, hb0⟩
     have g0 := hb0
     have k1 := G1.out w0 g0
     have c0_0 := GC.out w0 g0 0 _ rfl
     have c0_1 := GC.out w0 g0 1 _ rfl
     have c0_2 := GC.out w0 g0 2 _ rfl
     have c0_3 := GC.out w0 g0 3 _ rfl
     have c0_4 := GC.out w0 g0 4 _ rfl
     have c0_5 := GC.out w0 g0 5 _ rfl
     have c0_6 := GC.out w0 g0 6 _ rfl
     have c0_7 := GC.out w0 g0 7 _ rfl
     have c0_8 := GC.out w0 g0 8 _ rfl
     have c0_9 := GC.out w0 g0 9 _ rfl
     have c0_10 := GC.out w0 g0 10 _ rfl
     have c0_11 := GC.out w0 g0 11 _ rfl
     have c0_12 := GC.out w0 g0 12 _ rfl
     have c0_13 := GC.out w0 g0 13 _ rfl
     have c0_14 := GC.out w0 g0 14 _ rfl
     have c0_15 := GC.out w0 g0 15 _ rfl))
 go_ret
 exact ⟨ret_bool HS.out.symm, below_in HBA.out g3⟩
theorem shaped_p4 (room typ sender : ByteArray) (st : Bool) (key : ByteArray) (k i : Int) (t : ByteArray) (ks : List ByteArray) (l : List J) (prev auth : List ByteArray) (depth ts : Int) (hash : ByteArray) (sigs : List (ByteArray × ByteArray)) (pk : Option Addr) (ck : Nat) (pl : Option Addr) (cl : Nat) (pp : Option Addr) (cp : Nat) (pa : Option Addr) (ca : Nat) (ps : Option Addr) (cs : Nat) (w : World) (X : ShC room typ sender st key k i t ks l prev auth depth ts hash sigs pk ck pl cl pp cp pa ca ps cs w) (e0 : placedE ⟨room, typ, sender, st, key, ⟨k, i, t, ks, l⟩, prev, auth, depth, ts, hash, sigs⟩ = true) (e1 : keyedE ⟨room, typ, sender, st, key, ⟨k, i, t, ks, l⟩, prev, auth, depth, ts, hash, sigs⟩ = true) (e2 : filledE ⟨k, i, t, ks, l⟩ = true) (e3 : namedE 20 prev = true) (e4 : namedE 10 auth = false) :
    Calls Tryz.prog 77 #[.agg #[.string room, .string typ, .string sender, .bool st, .string key, .int .i64 k, .int .i64 i, .string t, .slice pk ks.length ck, .slice pl l.length cl, .slice pp prev.length cp, .slice pa auth.length ca, .int .i64 depth, .int .i64 ts, .string hash, .slice ps sigs.length cs]] w fun x w' => x = .returned (.bool (shapedE ⟨room, typ, sender, st, key, ⟨k, i, t, ks, l⟩, prev, auth, depth, ts, hash, sigs⟩)) ∧ Below w.heap.size w w' := by
 have HS : Hid (shapedE ⟨room, typ, sender, st, key, ⟨k, i, t, ks, l⟩, prev, auth, depth, ts, hash, sigs⟩ = false) := by
  show _ = _
  unfold shapedE
  simp only [e0, e1, e2, e3, e4]
  simp
 have H0 := X.h0 _ (Below.refl _ _)
 rw [e0] at H0
 have H1 := X.h1
 rw [e1] at H1
 have H2 := X.h2
 rw [e2] at H2
 have H3 := X.h3
 rw [e3] at H3
 have H4 := X.h4
 rw [e4] at H4
 have HC := X.cells
 have HBA : Hid (Below w.heap.size w (w.alloc (.cells #[.string room, .string typ, .string sender, .bool st, .string key, .int .i64 k, .int .i64 i, .string t, .slice pk ks.length ck, .slice pl l.length cl, .slice pp prev.length cp, .slice pa auth.length ca, .int .i64 depth, .int .i64 ts, .string hash, .slice ps sigs.length cs] 28))) := X.below
 have G1 : Hid _ := H1
 have G2 : Hid _ := H2
 have G3 : Hid _ := H3
 have G4 : Hid _ := H4
 have GC : Hid _ := HC
 clear X HC e0 e1 e2 e3 e4 H1 H2 H3 H4
 go_enter Tryz.func77, Tryz.ntmps77
 go_wp2_with (first
  | (go_at_call 106; refine k4.mono ?_; rintro x w4 ⟨rfl, hb4⟩
     have g4 := below_in g3 hb4)
  | (go_at_call 106; refine k3.mono ?_; rintro x w3 ⟨rfl, hb3⟩
     have g3 := below_in g2 hb3
     have k4 := G4.out w3 g3
     have c3_11 := GC.out w3 g3 11 _ rfl)
  | (go_at_call 105; refine k2.mono ?_; rintro x w2 ⟨rfl, hb2⟩
     have g2 := below_in g1 hb2
     have k3 := G3.out w2 g2
     have c2_10 := GC.out w2 g2 10 _ rfl)
  | (go_at_call 104; refine k1.mono ?_; rintro x w1 ⟨rfl, hb1⟩
     have g1 := below_in g0 hb1
     have k2 := G2.out w1 g1
     have c1_5 := GC.out w1 g1 5 _ rfl
     have c1_6 := GC.out w1 g1 6 _ rfl
     have c1_7 := GC.out w1 g1 7 _ rfl
     have c1_8 := GC.out w1 g1 8 _ rfl
     have c1_9 := GC.out w1 g1 9 _ rfl)
  | (go_at_call 103; refine H0.mono ?_; rintro x w0 ⟨rfl, hb0⟩
     have g0 := hb0
     have k1 := G1.out w0 g0
     have c0_0 := GC.out w0 g0 0 _ rfl
     have c0_1 := GC.out w0 g0 1 _ rfl
     have c0_2 := GC.out w0 g0 2 _ rfl
     have c0_3 := GC.out w0 g0 3 _ rfl
     have c0_4 := GC.out w0 g0 4 _ rfl
     have c0_5 := GC.out w0 g0 5 _ rfl
     have c0_6 := GC.out w0 g0 6 _ rfl
     have c0_7 := GC.out w0 g0 7 _ rfl
     have c0_8 := GC.out w0 g0 8 _ rfl
     have c0_9 := GC.out w0 g0 9 _ rfl
     have c0_10 := GC.out w0 g0 10 _ rfl
     have c0_11 := GC.out w0 g0 11 _ rfl
     have c0_12 := GC.out w0 g0 12 _ rfl
     have c0_13 := GC.out w0 g0 13 _ rfl
     have c0_14 := GC.out w0 g0 14 _ rfl
     have c0_15 := GC.out w0 g0 15 _ rfl))
 go_ret
 exact ⟨ret_bool HS.out.symm, below_in HBA.out g4⟩
end Go.Proofs.YtldegjjaknelgaaGreatDoor
