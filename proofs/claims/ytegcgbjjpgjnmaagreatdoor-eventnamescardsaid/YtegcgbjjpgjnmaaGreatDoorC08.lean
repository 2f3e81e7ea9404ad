/-
  A list read, by a contract: given how a value within it is read.
  Keys and values that are being read.
-/
import Derived.Test.YtegcgbjjpgjnmaaGreatDoorC07
set_option maxRecDepth 100000
set_option maxHeartbeats 16000000
namespace Go.Proofs.YtegcgbjjpgjnmaaGreatDoor
open Go.RowKit
def Reads (d : Nat) : Prop := ∀ (w : World) (R p : Nat) (s : ByteArray) (e l deep : Int), Rdr w R s p e l → short s → p ≤ s.size → deep = 13 - (d : Int) →
 Calls Tryz.prog 115 #[.pointer (some ⟨R, 0, none⟩), .int .i64 deep] w fun x w' => valTold w w' R s (value (ints s) d p) x
abbrev zJ : Obj := .cells #[.int .i64 0, .int .i64 0, .string ⟨#[]⟩, .slice none 0 0, .slice none 0 0] 25
abbrev lJ : Obj := .cells #[.int .i64 4, .int .i64 0, .string ⟨#[]⟩, .slice none 0 0, .slice none 0 0] 25
abbrev atL (w : World) (R p : Nat) : World := ((w.setCell ⟨R, 1, none⟩ (.int .i64 ((p : Int) + 1))).alloc zJ).alloc lJ
theorem atL_keep (w : World) (R p : Nat) : Keep (One R) w (atL w R p) := ((Rdr.setAt w R (p + 1)).alloc _).alloc _
theorem LI.start (w : World) (R p : Nat) (hR : R < w.heap.size) : LI (w.heap.size + 2) R w.heap.size (atL w R p) [] (.slice none 0 0) (atL w R p) := by
 refine ⟨?_, ?_, Vals.nil _ _, Keep.refl _ _, by simp, by omega, hR⟩
 · have := heap_alloc_new ((w.setCell ⟨R, 1, none⟩ (.int .i64 ((p : Int) + 1))).alloc zJ) lJ
   rw [show ((w.setCell ⟨R, 1, none⟩ (.int .i64 ((p : Int) + 1))).alloc zJ).heap.size = w.heap.size + 1 by simp] at this
   exact this
 · rw [Below.heap_alloc _ _ _ (by simp)]
   have := heap_alloc_new (w.setCell ⟨R, 1, none⟩ (.int .i64 ((p : Int) + 1))) zJ
   rw [show (w.setCell ⟨R, 1, none⟩ (.int .i64 ((p : Int) + 1))).heap.size = w.heap.size by simp] at this
   exact this
theorem LI.end {w W5 wr : World} {R p : Nat} {acc : List J} {vl : Value} (h : LI (w.heap.size + 2) R w.heap.size (atL w R p) acc vl wr) (hk : Keep (One w.heap.size) wr W5) : Keep (One R) w W5 := by
 have k1 : Keep (One R) w wr := (atL_keep w R p).trans h.keep fun i hi h' => by
  rcases h' with h' | h'
  · exact h'
  · omega
 exact k1.trans hk fun i hi h' => by unfold One at h'; omega
theorem LI.ok {w W5 wr : World} {R p : Nat} {acc : List J} {vl : Value} (h : LI (w.heap.size + 2) R w.heap.size (atL w R p) acc vl wr) (hk : Keep (One w.heap.size) wr W5) :
    ∃ q c, vl = .slice q acc.length c ∧ isJ (New w W5) W5 (.mk 4 0 nix [] acc) [.int .i64 4, .int .i64 0, .string nix, .slice none 0 0, .slice q acc.length c] := by
 obtain ⟨xs, h1, h2⟩ := h.vals
 obtain ⟨q, c, e, hc, hj⟩ := own_js h1 h2
 refine ⟨q, c, e, ?_⟩
 unfold isJ
 refine ⟨none, 0, q, c, rfl, RdK.nil _ _, hc, hj.carry fun k hk' => ?_⟩
 have hs := hk.size
 rcases hk' with hk' | hk'
 · exact ⟨⟨by have := hk'.1; omega, by have := hk'.2.1; omega⟩, hk.block k hk'.2.1 (by unfold One; have := hk'.1; omega)⟩
 · exact ⟨⟨by omega, by omega⟩, hk.block k hk'.2 (by unfold One; omega)⟩
theorem own_slice {w : World} {B e size n : Nat} {v : Value} {xs : List Value} (h : w.ownsRow B e size v n xs) : ∃ q n c, v = .slice q n c := by
 rcases h.2 with ⟨h', h0⟩ | ⟨g', cap', cur, h', _⟩
 · exact ⟨_, _, _, h'⟩
 · exact ⟨_, _, _, h'⟩
theorem cells_at5 {W : World} {n : Nat} (h : W.heap.size = n) {t : TypeId} {y0 y1 y2 y3 y4 : Value} : ∀ j u, [y0, y1, y2, y3, y4][j]? = some u → (W.alloc (.cells #[y0, y1, y2, y3, y4] t)).cell? ((⟨n, 0, none⟩ : Addr).add j) = some u := by
 subst h
 exact cells_new5 _ _ _ _ _ _ _
theorem elt_new {B R b : Nat} {WA w3 w4 : World} {acc : List J} {vl : Value} {y : J} {cs : List Value} (h : LI B R b WA acc vl w3) (hj : isJ (New w3 w4) w4 y cs) (o : Obj) : isJ (Elt B vl (w4.alloc o)) (w4.alloc o) y cs := by
 have hs := h.size
 obtain ⟨xs, h1, h2⟩ := h.vals
 refine hj.carry fun k hk' => ⟨⟨by have := hk'.1; omega, by have := hk'.2; simp; omega, fun e => ?_⟩, Below.heap_alloc _ _ _ hk'.2⟩
 have := (own_ge h1 k e).2
 have := hk'.1
 omega
theorem rdr_push {B R b p : Nat} {WA W W2 : World} {acc : List J} {vl : Value} {s : ByteArray} {e l : Int} {n : Nat} {xs : List Value} {o : Obj} (h : LI B R b WA acc vl W) (hr : Rdr W R s p e l) (h1 : W.ownsRow B 25 5 vl n xs)
    (hg : (W.alloc o).grownBy W2 vl.ownBlock) (vl' : Value) : Rdr (W2.setCell ⟨b + 1, 4, none⟩ vl') R s p e l := by
 have hlt := h.lt
 have hrb := h.rb
 have h2 : Rdr W2 R s p e l := (grown_at hg hr.lt fun e => by have := (own_ge h1 _ e).1; omega).trans hr
 exact h2.keep (Keep.setCell (S := One (b + 1)) (Keep.refl _ W2) (p := ⟨b + 1, 4, none⟩) (fun _ => (rfl : b + 1 = b + 1)) vl') (by unfold One; omega)
theorem one5 {k i : Int} {t : ByteArray} {pk pl : Option Addr} {nk ck nl cl : Nat} : ∀ u ∈ [Value.int .i64 k, .int .i64 i, .string t, .slice pk nk ck, .slice pl nl cl], u.oneCell' = true := by
 intro u hu
 simp only [List.mem_cons, List.not_mem_nil, or_false] at hu
 rcases hu with rfl | rfl | rfl | rfl | rfl <;> rfl
theorem list_any {d : Nat} (V : Reads d) {w : World} {R p : Nat} {s : ByteArray} {e l deep : Int} (hr : Rdr w R s p e l) (hs : short s) (hp : p < s.size) (hdeep : deep = 12 - (d : Int)) (hd : d ≤ 12) :
    Calls Tryz.prog 142 #[.pointer (some ⟨R, 0, none⟩), .int .i64 deep] w fun x w' => valTold w w' R s (listAt (ints s) (value (ints s) d) p) x := by
 have hsz := hs
 unfold short at hsz
 have hR := hr.lt
 have hd0 : 0 ≤ deep := by omega
 have hd1 : deep ≤ 12 := by omega
 have HD : Hid (deep = 12 - (d : Int)) := hdeep
 clear hdeep
 have c1 := hr.c1
 have f1 := hr.fz 1
 have HR1 : Rdr (atL w R p) R s (p + 1) e l := (hr.at (p + 1)).keep (S := fun _ => False) (((Keep.refl _ _).alloc _).alloc _) (fun h => h)
 have hli1 := LI.start w R p hR
 have hbl := blanks_le (t := ints s) (p := p + 1) (by rw [ints_length]; exact hp)
 rw [ints_length] at hbl
 unfold atL zJ lJ at HR1
 by_cases h93 : byteAt (ints s) (blanks (ints s) (p + 1)) = 93
 · have HL : Hid (listAt (ints s) (value (ints s) d) p = .ok (.mk 4 0 nix [] []) (blanks (ints s) (p + 1) + 1)) := by unfold listAt; rw [if_pos h93]; rfl
   go_enter Tryz.func142, Tryz.ntmps142
   go_wp2_with (first
    | (go_at_call 114; refine (blanks_any HR1 hs hp).mono ?_; rintro x w2 ⟨rfl, ⟨⟨e2, l2, hr2⟩, hk2⟩⟩)
    | (go_at_call 167; refine (take_yes hr2 (by omega) 93 h93).mono ?_; rintro x w3 ⟨rfl, ⟨⟨e3, l3, hr3⟩, hk3⟩⟩
       have hli3 := (hli1.one hk2).one hk3
       have j0 := five_c0 hli3.obj; have j1 := five_c1 hli3.obj; have j2 := five_c2 hli3.obj; have j3 := five_c3 hli3.obj; have j4 := five_c4 hli3.obj
       have i0 := five_c0 hli3.res; have i1 := five_c1 hli3.res; have i2 := five_c2 hli3.res; have i3 := five_c3 hli3.res; have i4 := five_c4 hli3.res
       have z0 := five_fz hli3.res 0; have z1 := five_fz hli3.res 1; have z2 := five_fz hli3.res 2; have z3 := five_fz hli3.res 3; have z4 := five_fz hli3.res 4))
   have h5 := set5_heap hli3.res (.int .i64 4) (.int .i64 0) (.string ⟨#[]⟩) (.slice none 0 0) (.slice none 0 0)
   have HK5 : Keep (One w.heap.size) w3 _ := set5_keep w3 w.heap.size (.int .i64 4) (.int .i64 0) (.string ⟨#[]⟩) (.slice none 0 0) (.slice none 0 0)
   unfold set5 at h5 HK5
   have k0 := five_c0 h5; have k1 := five_c1 h5; have k2 := five_c2 h5; have k3 := five_c3 h5; have k4 := five_c4 h5
   refine bodyPost_ret (v := .tuple #[.agg #[.int .i64 4, .int .i64 0, .string ⟨#[]⟩, .slice none 0 0, .slice none 0 0], .bool true]) (by simp [results, Tryz.results142, go_sem, k0, k1, k2, k3, k4]) rfl ?_
   rw [HL.out]
   exact ⟨⟨_, _, _, _, _, _, _, _, _, rfl, flat_isJ _ _ 4 0 nix⟩, ⟨_, _, hr3.keep HK5 (fun h => by unfold One at h; omega)⟩, hli3.end HK5⟩
 · have HL : Hid (listAt (ints s) (value (ints s) d) p = listL (ints s) (value (ints s) d) (s.size + 1) (blanks (ints s) (p + 1)) []) := by unfold listAt; rw [if_neg h93, ints_length]; rfl
   go_enter Tryz.func142, Tryz.ntmps142
   go_wp2_with (first
    | (go_at_call 114; refine (blanks_any HR1 hs hp).mono ?_; rintro x w2 ⟨rfl, ⟨⟨e2, l2, hr2⟩, hk2⟩⟩)
    | (go_at_call 167; refine (take_no hr2 93 h93).mono ?_; rintro x w' ⟨rfl, rfl⟩))
   have hli2 := hli1.one hk2
   go_loopw [8] (fun _ wr => ∃ (q m : Nat) (acc : List J) (vl : Value), q ≤ s.size ∧ s.size < q + m ∧ acc.length ≤ q ∧ listL (ints s) (value (ints s) d) m q acc = listAt (ints s) (value (ints s) d) p ∧ LI (w.heap.size + 2) R w.heap.size (atL w R p) acc vl wr ∧ ∃ e l, Rdr wr R s q e l) (fun _ wr => s.size - posOf R wr)
   case atStart => exact ⟨_, s.size + 1, [], _, hbl, by omega, by simp, HL.out.symm, hli2, _, _, hr2⟩
   case round =>
    clear hli2 hk2 hr2 HL hli1 HR1 c1 f1
    obtain ⟨q, m, acc, vl, hq, hm, hal, hx, hli, e1, l1, hr1⟩ := hrel
    have hb1 := blanks_le (t := ints s) (p := q) (by rw [ints_length]; exact hq)
    have hb0 := blanks_ge (ints s) q
    rw [ints_length] at hb1
    have hadv := value_adv (ints s) d (blanks (ints s) q) (by rw [ints_length]; exact hb1)
    have hV := fun (wv : World) (e l : Int) (h : Rdr wv R s (blanks (ints s) q) e l) => V wv R (blanks (ints s) q) s e l (deep + 1) h hs hb1 (by have := HD.out; omega)
    obtain ⟨m, rfl⟩ : ∃ m', m = m' + 1 := ⟨m - 1, by omega⟩
    have HX : Hid (listL (ints s) (value (ints s) d) (m + 1) q acc = listAt (ints s) (value (ints s) d) p) := hx
    clear hx
    unfold listL at HX
    have HP0 := posOf_rdr hr1
    cases hv : value (ints s) d (blanks (ints s) q) with
    | bad er la =>
     rw [hv] at HX hV
     go_wp2_with (first
      | (go_at_call 114; refine (blanks_any hr1 hs hq).mono ?_; rintro x w3 ⟨rfl, ⟨⟨e3, l3, hr3⟩, hk3⟩⟩)
      | (go_at_call 115; refine (hV _ _ _ hr3).mono ?_; rintro x w4 ⟨⟨kv, iv, tv, rfl⟩, ⟨q4, hr4⟩, hk4⟩
         unfold flat
         have hli4 := ((hli.one hk3).one hk4).alloc (.cells #[.int .i64 kv, .int .i64 iv, .string tv, .slice none 0 0, .slice none 0 0] 25)
         have hr4a : Rdr (w4.alloc (.cells #[.int .i64 kv, .int .i64 iv, .string tv, .slice none 0 0, .slice none 0 0] 25)) R s q4 er la := hr4.keep (S := fun _ => False) ((Keep.refl _ _).alloc _) (fun h => h)
         have i0 := five_c0 hli4.res; have i1 := five_c1 hli4.res; have i2 := five_c2 hli4.res; have i3 := five_c3 hli4.res; have i4 := five_c4 hli4.res
         have z0 := five_fz hli4.res 0; have z1 := five_fz hli4.res 1; have z2 := five_fz hli4.res 2; have z3 := five_fz hli4.res 3; have z4 := five_fz hli4.res 4))
     have h5 := set5_heap hli4.res (.int .i64 0) (.int .i64 0) (.string ⟨#[]⟩) (.slice none 0 0) (.slice none 0 0)
     have HK5 : Keep (One w.heap.size) (w4.alloc (.cells #[.int .i64 kv, .int .i64 iv, .string tv, .slice none 0 0, .slice none 0 0] 25)) _ := set5_keep (w4.alloc (.cells #[.int .i64 kv, .int .i64 iv, .string tv, .slice none 0 0, .slice none 0 0] 25)) w.heap.size (.int .i64 0) (.int .i64 0) (.string ⟨#[]⟩) (.slice none 0 0) (.slice none 0 0)
     unfold set5 at h5 HK5
     have k0 := five_c0 h5; have k1 := five_c1 h5; have k2 := five_c2 h5; have k3 := five_c3 h5; have k4 := five_c4 h5
     refine bodyPost_ret (v := .tuple #[.agg #[.int .i64 0, .int .i64 0, .string ⟨#[]⟩, .slice none 0 0, .slice none 0 0], .bool false]) (by simp [results, Tryz.results142, go_sem, k0, k1, k2, k3, k4]) rfl ?_
     rw [← HX.out]
     exact ⟨⟨0, 0, nix, rfl⟩, ⟨_, hr4a.keep HK5 (fun h => by unfold One at h; omega)⟩, hli4.end HK5⟩
    | ok y qy =>
     rw [hv] at HX hV hadv
     have HX : Hid ((if byteAt (ints s) (blanks (ints s) qy) = 93 then .ok (.mk 4 0 nix [] (acc ++ [y])) (blanks (ints s) qy + 1) else if byteAt (ints s) (blanks (ints s) qy) = 44 then listL (ints s) (value (ints s) d) m (blanks (ints s) qy + 1) (acc ++ [y]) else .bad 11 (blanks (ints s) qy)) = listAt (ints s) (value (ints s) d) p) := HX
     have hqy := hadv.2
     have hqy0 := hadv.1
     rw [ints_length] at hqy
     have hb2 := blanks_le (t := ints s) (p := qy) (by rw [ints_length]; exact hqy)
     rw [ints_length] at hb2
     have hb3 := blanks_ge (ints s) qy
     clear hadv
     by_cases h9 : byteAt (ints s) (blanks (ints s) qy) = 93
     · rw [if_pos h9] at HX
       go_wp2_with (first
        | (go_at_call 114; refine (blanks_any hr5 hs hqy).mono ?_; rintro x w6 ⟨rfl, ⟨⟨e6, l6, hr6⟩, hk6⟩⟩)
        | (go_at_call 114; refine (blanks_any hr1 hs hq).mono ?_; rintro x w3 ⟨rfl, ⟨⟨e3, l3, hr3⟩, hk3⟩⟩)
        | (go_at_call 115; refine (hV _ _ _ hr3).mono ?_; rintro x w4 ⟨⟨kv, iv, tv, pk, nk, ck, pl, nl, cl, rfl, hj⟩, ⟨e4, l4, hr4⟩, hk4⟩
           have hli3 := hli.one hk3
           have hyJ := elt_new hli3 hj (.cells #[.int .i64 kv, .int .i64 iv, .string tv, .slice pk nk ck, .slice pl nl cl] 25)
           have hli4 := (hli3.one hk4).alloc (.cells #[.int .i64 kv, .int .i64 iv, .string tv, .slice pk nk ck, .slice pl nl cl] 25)
           have hr4a : Rdr (w4.alloc (.cells #[.int .i64 kv, .int .i64 iv, .string tv, .slice pk nk ck, .slice pl nl cl] 25)) R s qy e4 l4 := hr4.keep (S := fun _ => False) ((Keep.refl _ _).alloc _) (fun h => h)
           have hc4 := hli4.c4
           obtain ⟨xs, hv1, hv2⟩ := hli4.vals)
        | (at_builtin; refine wpList_app rfl _ _ 23 rfl (w.heap.size + 2) 25 (.agg #[.int .i64 0, .int .i64 0, .string ⟨#[]⟩, .slice none 0 0, .slice none 0 0]) 5 80 Tryz.underlying23 Tryz.info25 rfl (by decide) (by decide) vl acc.length xs rfl (hv1.alloc _) _ [.int .i64 kv, .int .i64 iv, .string tv, .slice pk nk ck, .slice pl nl cl] rfl rfl (cells_at5 (by simp)) one5 (by omega) (by have := hli4.size; simp at this ⊢; omega) ?_
           intro vl2 W5 hown5 hg5 hat5
           obtain ⟨q5, n5, c5, hE5⟩ : ∃ q n c, vl2 = .slice q n c := own_slice hown5
           subst hE5
           have hg5' : ((w4.alloc (.cells #[.int .i64 kv, .int .i64 iv, .string tv, .slice pk nk ck, .slice pl nl cl] 25)).alloc (.cells #[.int .i64 kv, .int .i64 iv, .string tv, .slice pk nk ck, .slice pl nl cl] 25)).grownBy W5 vl.ownBlock := hg5
           have hat5' : (Value.slice q5 n5 c5).ownBlock = vl.ownBlock ∨ (Value.slice q5 n5 c5).ownBlock = some ((w4.alloc (.cells #[.int .i64 kv, .int .i64 iv, .string tv, .slice pk nk ck, .slice pl nl cl] 25)).alloc (.cells #[.int .i64 kv, .int .i64 iv, .string tv, .slice pk nk ck, .slice pl nl cl] 25)).heap.size := hat5
           obtain ⟨e5, f5, hli5⟩ := hli4.push hv1 hv2 hyJ hown5 hg5' hat5'
           have hr5 := rdr_push hli4 hr4a hv1 hg5' (.slice q5 n5 c5)
           clear hown5 hg5 hat5 hg5' hat5')
        | (go_at_call 167; refine (take_yes hr6 (by omega) 93 h9).mono ?_; rintro x w7 ⟨rfl, ⟨⟨e7, l7, hr7⟩, hk7⟩⟩
           have hli7 := (hli5.one hk6).one hk7
           have i0 := five_c0 hli7.res; have i1 := five_c1 hli7.res; have i2 := five_c2 hli7.res; have i3 := five_c3 hli7.res; have i4 := five_c4 hli7.res
           have z0 := five_fz hli7.res 0; have z1 := five_fz hli7.res 1; have z2 := five_fz hli7.res 2; have z3 := five_fz hli7.res 3; have z4 := five_fz hli7.res 4
           have j0 := five_c0 hli7.obj; have j1 := five_c1 hli7.obj; have j2 := five_c2 hli7.obj; have j3 := five_c3 hli7.obj; have j4 := five_c4 hli7.obj))
       have h5 := set5_heap hli7.res (.int .i64 4) (.int .i64 0) (.string ⟨#[]⟩) (.slice none 0 0) (.slice q5 n5 c5)
       have HK5 : Keep (One w.heap.size) w7 _ := set5_keep w7 w.heap.size (.int .i64 4) (.int .i64 0) (.string ⟨#[]⟩) (.slice none 0 0) (.slice q5 n5 c5)
       unfold set5 at h5 HK5
       have k0 := five_c0 h5; have k1 := five_c1 h5; have k2 := five_c2 h5; have k3 := five_c3 h5; have k4 := five_c4 h5
       refine bodyPost_ret (v := .tuple #[.agg #[.int .i64 4, .int .i64 0, .string ⟨#[]⟩, .slice none 0 0, .slice q5 n5 c5], .bool true]) (by simp [results, Tryz.results142, go_sem, k0, k1, k2, k3, k4]) rfl ?_
       rw [← HX.out]
       obtain ⟨qv, cv, hE, hJ⟩ := hli7.ok HK5
       cases hE
       exact ⟨⟨_, _, _, _, _, _, _, _, _, rfl, hJ⟩, ⟨_, _, hr7.keep HK5 (fun h => by unfold One at h; omega)⟩, hli7.end HK5⟩
     · rw [if_neg h9] at HX
       by_cases h44 : byteAt (ints s) (blanks (ints s) qy) = 44
       · rw [if_pos h44] at HX
         have hlt := byteAt_lt (t := ints s) (p := blanks (ints s) qy) (by rw [h44]; decide)
         rw [ints_length] at hlt
         go_wp2_with (first
          | (go_at_call 114; refine (blanks_any hr5 hs hqy).mono ?_; rintro x w6 ⟨rfl, ⟨⟨e6, l6, hr6⟩, hk6⟩⟩)
          | (go_at_call 114; refine (blanks_any hr1 hs hq).mono ?_; rintro x w3 ⟨rfl, ⟨⟨e3, l3, hr3⟩, hk3⟩⟩)
          | (go_at_call 115; refine (hV _ _ _ hr3).mono ?_; rintro x w4 ⟨⟨kv, iv, tv, pk, nk, ck, pl, nl, cl, rfl, hj⟩, ⟨e4, l4, hr4⟩, hk4⟩
             have hli3 := hli.one hk3
             have hyJ := elt_new hli3 hj (.cells #[.int .i64 kv, .int .i64 iv, .string tv, .slice pk nk ck, .slice pl nl cl] 25)
             have hli4 := (hli3.one hk4).alloc (.cells #[.int .i64 kv, .int .i64 iv, .string tv, .slice pk nk ck, .slice pl nl cl] 25)
             have hr4a : Rdr (w4.alloc (.cells #[.int .i64 kv, .int .i64 iv, .string tv, .slice pk nk ck, .slice pl nl cl] 25)) R s qy e4 l4 := hr4.keep (S := fun _ => False) ((Keep.refl _ _).alloc _) (fun h => h)
             have hc4 := hli4.c4
             obtain ⟨xs, hv1, hv2⟩ := hli4.vals)
          | (at_builtin; refine wpList_app rfl _ _ 23 rfl (w.heap.size + 2) 25 (.agg #[.int .i64 0, .int .i64 0, .string ⟨#[]⟩, .slice none 0 0, .slice none 0 0]) 5 80 Tryz.underlying23 Tryz.info25 rfl (by decide) (by decide) vl acc.length xs rfl (hv1.alloc _) _ [.int .i64 kv, .int .i64 iv, .string tv, .slice pk nk ck, .slice pl nl cl] rfl rfl (cells_at5 (by simp)) one5 (by omega) (by have := hli4.size; simp at this ⊢; omega) ?_
             intro vl2 W5 hown5 hg5 hat5
             obtain ⟨q5, n5, c5, hE5⟩ : ∃ q n c, vl2 = .slice q n c := own_slice hown5
             subst hE5
             have hg5' : ((w4.alloc (.cells #[.int .i64 kv, .int .i64 iv, .string tv, .slice pk nk ck, .slice pl nl cl] 25)).alloc (.cells #[.int .i64 kv, .int .i64 iv, .string tv, .slice pk nk ck, .slice pl nl cl] 25)).grownBy W5 vl.ownBlock := hg5
             have hat5' : (Value.slice q5 n5 c5).ownBlock = vl.ownBlock ∨ (Value.slice q5 n5 c5).ownBlock = some ((w4.alloc (.cells #[.int .i64 kv, .int .i64 iv, .string tv, .slice pk nk ck, .slice pl nl cl] 25)).alloc (.cells #[.int .i64 kv, .int .i64 iv, .string tv, .slice pk nk ck, .slice pl nl cl] 25)).heap.size := hat5
             obtain ⟨e5, f5, hli5⟩ := hli4.push hv1 hv2 hyJ hown5 hg5' hat5'
             have hr5 := rdr_push hli4 hr4a hv1 hg5' (.slice q5 n5 c5)
             clear hown5 hg5 hat5 hg5' hat5')
          | (go_at_call 167; refine (take_no hr6 93 h9).mono ?_; rintro x w' ⟨rfl, rfl⟩)
          | (go_at_call 164; refine (must_yes hr6 (by omega) 44 h44).mono ?_; rintro x w7 ⟨rfl, ⟨⟨e7, l7, hr7⟩, hk7⟩⟩
             have hli7 := (hli5.one hk6).one hk7))
         have HP := posOf_rdr hr7
         go_roundw
         case rel => exact ⟨_, m, acc ++ [y], _, hlt, by omega, by simp; omega, HX.out, hli7, _, _, hr7⟩
         case measure => rw [HP, HP0]; omega
       · rw [if_neg h44] at HX
         go_wp2_with (first
          | (go_at_call 114; refine (blanks_any hr5 hs hqy).mono ?_; rintro x w6 ⟨rfl, ⟨⟨e6, l6, hr6⟩, hk6⟩⟩)
          | (go_at_call 114; refine (blanks_any hr1 hs hq).mono ?_; rintro x w3 ⟨rfl, ⟨⟨e3, l3, hr3⟩, hk3⟩⟩)
          | (go_at_call 115; refine (hV _ _ _ hr3).mono ?_; rintro x w4 ⟨⟨kv, iv, tv, pk, nk, ck, pl, nl, cl, rfl, hj⟩, ⟨e4, l4, hr4⟩, hk4⟩
             have hli3 := hli.one hk3
             have hyJ := elt_new hli3 hj (.cells #[.int .i64 kv, .int .i64 iv, .string tv, .slice pk nk ck, .slice pl nl cl] 25)
             have hli4 := (hli3.one hk4).alloc (.cells #[.int .i64 kv, .int .i64 iv, .string tv, .slice pk nk ck, .slice pl nl cl] 25)
             have hr4a : Rdr (w4.alloc (.cells #[.int .i64 kv, .int .i64 iv, .string tv, .slice pk nk ck, .slice pl nl cl] 25)) R s qy e4 l4 := hr4.keep (S := fun _ => False) ((Keep.refl _ _).alloc _) (fun h => h)
             have hc4 := hli4.c4
             obtain ⟨xs, hv1, hv2⟩ := hli4.vals)
          | (at_builtin; refine wpList_app rfl _ _ 23 rfl (w.heap.size + 2) 25 (.agg #[.int .i64 0, .int .i64 0, .string ⟨#[]⟩, .slice none 0 0, .slice none 0 0]) 5 80 Tryz.underlying23 Tryz.info25 rfl (by decide) (by decide) vl acc.length xs rfl (hv1.alloc _) _ [.int .i64 kv, .int .i64 iv, .string tv, .slice pk nk ck, .slice pl nl cl] rfl rfl (cells_at5 (by simp)) one5 (by omega) (by have := hli4.size; simp at this ⊢; omega) ?_
             intro vl2 W5 hown5 hg5 hat5
             obtain ⟨q5, n5, c5, hE5⟩ : ∃ q n c, vl2 = .slice q n c := own_slice hown5
             subst hE5
             have hg5' : ((w4.alloc (.cells #[.int .i64 kv, .int .i64 iv, .string tv, .slice pk nk ck, .slice pl nl cl] 25)).alloc (.cells #[.int .i64 kv, .int .i64 iv, .string tv, .slice pk nk ck, .slice pl nl cl] 25)).grownBy W5 vl.ownBlock := hg5
             have hat5' : (Value.slice q5 n5 c5).ownBlock = vl.ownBlock ∨ (Value.slice q5 n5 c5).ownBlock = some ((w4.alloc (.cells #[.int .i64 kv, .int .i64 iv, .string tv, .slice pk nk ck, .slice pl nl cl] 25)).alloc (.cells #[.int .i64 kv, .int .i64 iv, .string tv, .slice pk nk ck, .slice pl nl cl] 25)).heap.size := hat5
             obtain ⟨e5, f5, hli5⟩ := hli4.push hv1 hv2 hyJ hown5 hg5' hat5'
             have hr5 := rdr_push hli4 hr4a hv1 hg5' (.slice q5 n5 c5)
             clear hown5 hg5 hat5 hg5' hat5')
          | (go_at_call 167; refine (take_no hr6 93 h9).mono ?_; rintro x w' ⟨rfl, rfl⟩)
          | (go_at_call 164; refine (must_no hr6 44 h44).mono ?_; rintro x w7 ⟨rfl, ⟨⟨q7, hr7⟩, hk7⟩⟩
             have hli7 := (hli5.one hk6).one hk7
             have i0 := five_c0 hli7.res; have i1 := five_c1 hli7.res; have i2 := five_c2 hli7.res; have i3 := five_c3 hli7.res; have i4 := five_c4 hli7.res
             have z0 := five_fz hli7.res 0; have z1 := five_fz hli7.res 1; have z2 := five_fz hli7.res 2; have z3 := five_fz hli7.res 3; have z4 := five_fz hli7.res 4))
         have h5 := set5_heap hli7.res (.int .i64 0) (.int .i64 0) (.string ⟨#[]⟩) (.slice none 0 0) (.slice none 0 0)
         have HK5 : Keep (One w.heap.size) w7 _ := set5_keep w7 w.heap.size (.int .i64 0) (.int .i64 0) (.string ⟨#[]⟩) (.slice none 0 0) (.slice none 0 0)
         unfold set5 at h5 HK5
         have k0 := five_c0 h5; have k1 := five_c1 h5; have k2 := five_c2 h5; have k3 := five_c3 h5; have k4 := five_c4 h5
         refine bodyPost_ret (v := .tuple #[.agg #[.int .i64 0, .int .i64 0, .string ⟨#[]⟩, .slice none 0 0, .slice none 0 0], .bool false]) (by simp [results, Tryz.results142, go_sem, k0, k1, k2, k3, k4]) rfl ?_
         rw [← HX.out]
         exact ⟨⟨0, 0, nix, rfl⟩, ⟨_, hr7.keep HK5 (fun h => by unfold One at h; omega)⟩, hli7.end HK5⟩
def Free (B : Nat) (vk vl : Value) (w : World) : Nat → Prop := fun k => B ≤ k ∧ k < w.heap.size ∧ vk.ownBlock ≠ some k ∧ vl.ownBlock ≠ some k
structure PI (B R M b : Nat) (WA : World) (ks : List ByteArray) (acc : List J) (vk vl : Value) (wr : World) : Prop where
 res : wr.heap[b]? = some (.cells #[.int .i64 0, .int .i64 0, .string ⟨#[]⟩, .slice none 0 0, .slice none 0 0] 25 (0, 0))
 keys : wr.ownsRow B 9 1 vk ks.length (ks.map Value.string)
 vals : ∃ xs, wr.ownsRow B 25 5 vl acc.length xs ∧ isRow (Free B vk vl wr) wr acc xs
 ne : ∀ i, vk.ownBlock = some i → vl.ownBlock ≠ some i
 keep : Keep (Two R M) WA wr
 szA : WA.heap.size = B
 rb : R < b
 bm : b < M
 mB : M < B
structure Goes (B : Nat) (vk vl : Value) (W : World) (vk' vl' : Value) (W' : World) : Prop where
 free : ∀ k, Free B vk vl W k → Free B vk' vl' W' k ∧ W'.heap[k]? = W.heap[k]?
 low : ∀ k, k < B → W'.heap[k]? = W.heap[k]?
theorem Stood.at {w w' : World} {M : Nat} {ks : List ByteArray} (h : Stood w M ks) (e : w'.heap[M]? = w.heap[M]?) : Stood w' M ks := by
 obtain ⟨D, ⟨es, clock, hb, F, hs, hD⟩, hm, hh⟩ := h
 exact ⟨D, ⟨es, clock, e.trans hb, F, hs, hD⟩, hm, hh⟩
section
variable {B R M b : Nat} {WA W W2 : World} {ks : List ByteArray} {acc : List J} {vk vl vk' vl' : Value}
theorem PI.size (h : PI B R M b WA ks acc vk vl W) : B ≤ W.heap.size := by have := h.keep.size; have := h.szA; omega
theorem PI.two (h : PI B R M b WA ks acc vk vl W) (hk : Keep (Two R M) W W2) : PI B R M b WA ks acc vk vl W2 := by
 have h1 := h.size
 have h2 := h.rb
 have h3 := h.bm
 have h4 := h.mB
 have hs := hk.size
 obtain ⟨xs, hv1, hv2⟩ := h.vals
 refine ⟨(hk.block _ (by omega) (by unfold Two; omega)).trans h.res, own_keep h.keys hk fun k e => ?_, ⟨xs, own_keep hv1 hk fun k e => ?_, hv2.carry fun k hk' => ⟨⟨hk'.1, by have := hk'.2.1; omega, hk'.2.2⟩, hk.block k hk'.2.1 ?_⟩⟩, h.ne, h.keep.then hk, h.szA, h2, h3, h4⟩
 · have := (own_ge h.keys k e).1; unfold Two; omega
 · have := (own_ge hv1 k e).1; unfold Two; omega
 · have := hk'.1; unfold Two; omega
theorem PI.one (h : PI B R M b WA ks acc vk vl W) (hk : Keep (One R) W W2) : PI B R M b WA ks acc vk vl W2 := h.two hk.one_two
theorem PI.alloc (h : PI B R M b WA ks acc vk vl W) (o : Obj) : PI B R M b WA ks acc vk vl (W.alloc o) := h.two ((Keep.refl _ _).alloc o)
theorem PI.drew (h : PI B R M b WA ks acc vk vl W) : PI B R M b WA ks acc vk vl W.drew := h.two (Keep.refl _ _).drew
theorem Goes.keep (hB : B ≤ W.heap.size) (hk : Keep (fun _ => False) W W2) : Goes B vk vl W vk vl W2 :=
 ⟨fun k hk' => ⟨⟨hk'.1, Nat.lt_of_lt_of_le hk'.2.1 hk.size, hk'.2.2⟩, hk.block k hk'.2.1 fun h => h⟩, fun k hk' => hk.block k (by omega) fun h => h⟩
theorem PI.key (h : PI B R M b WA ks acc vk vl W) {x : ByteArray} (hown : W2.ownsRow B 9 1 vk' (ks.length + 1) (ks.map Value.string ++ [.string x])) (hg : W.grownBy W2 vk.ownBlock) (hat : vk'.ownBlock = vk.ownBlock ∨ vk'.ownBlock = some W.heap.size) :
    PI B R M b WA (ks ++ [x]) acc vk' vl W2 ∧ Goes B vk vl W vk' vl W2 := by
 have h1 := h.size
 have h2 := h.rb
 have h3 := h.bm
 have h4 := h.mB
 have hs := hg.size
 have hgk := own_ge h.keys
 obtain ⟨xs, hv1, hv2⟩ := h.vals
 have hgv := own_ge hv1
 have low : ∀ k, k < B → W2.heap[k]? = W.heap[k]? := fun k hk => hg.block k (by omega) fun e => by have := (hgk k e.symm).1; omega
 have free : ∀ k, Free B vk vl W k → Free B vk' vl W2 k ∧ W2.heap[k]? = W.heap[k]? := by
  intro k hk
  refine ⟨⟨hk.1, by have := hk.2.1; omega, fun e => ?_, hk.2.2.2⟩, hg.block k hk.2.1 fun e => hk.2.2.1 e.symm⟩
  rcases hat with h' | h'
  · exact hk.2.2.1 (h' ▸ e)
  · rw [h'] at e
    have := Option.some.inj e
    have := hk.2.1
    omega
 refine ⟨⟨(low b (by omega)).trans h.res, by rw [List.length_append, List.map_append]; exact hown, ⟨xs, own_keep hv1 (S := fun k => vk.ownBlock = some k) (Keep.of_grown hg fun _ _ e => e) fun k e e' => h.ne k e' e, hv2.carry free⟩, ?_, h.keep.grown hg fun k e => by have := (hgk k e).1; have := h.szA; omega, h.szA, h2, h3, h4⟩, ⟨free, low⟩⟩
 intro i e e'
 rcases hat with h' | h'
 · exact h.ne i (h' ▸ e) e'
 · rw [h'] at e
   have := Option.some.inj e
   have := (hgv i e').2
   omega
theorem PI.val (h : PI B R M b WA ks acc vk vl W) {y : J} {cs xs : List Value} (hv1 : W.ownsRow B 25 5 vl acc.length xs) (hv2 : isRow (Free B vk vl W) W acc xs) (hy : isJ (Free B vk vl W) W y cs)
    (hown : W2.ownsRow B 25 5 vl' (acc.length + 1) (xs ++ cs)) (hg : W.grownBy W2 vl.ownBlock) (hat : vl'.ownBlock = vl.ownBlock ∨ vl'.ownBlock = some W.heap.size) :
    PI B R M b WA ks (acc ++ [y]) vk vl' W2 ∧ Goes B vk vl W vk vl' W2 := by
 have h1 := h.size
 have h2 := h.rb
 have h3 := h.bm
 have h4 := h.mB
 have hs := hg.size
 have hgk := own_ge h.keys
 have hgv := own_ge hv1
 have low : ∀ k, k < B → W2.heap[k]? = W.heap[k]? := fun k hk => hg.block k (by omega) fun e => by have := (hgv k e.symm).1; omega
 have free : ∀ k, Free B vk vl W k → Free B vk vl' W2 k ∧ W2.heap[k]? = W.heap[k]? := by
  intro k hk
  refine ⟨⟨hk.1, by have := hk.2.1; omega, hk.2.2.1, fun e => ?_⟩, hg.block k hk.2.1 fun e => hk.2.2.2 e.symm⟩
  rcases hat with h' | h'
  · exact hk.2.2.2 (h' ▸ e)
  · rw [h'] at e
    have := Option.some.inj e
    have := hk.2.1
    omega
 refine ⟨⟨(low b (by omega)).trans h.res, own_keep h.keys (S := fun k => vl.ownBlock = some k) (Keep.of_grown hg fun _ _ e => e) fun k e e' => h.ne k e e', ⟨xs ++ cs, by rw [List.length_append]; exact hown, isRow.snoc hy.five (hy.carry free) acc xs (hv2.carry free)⟩, ?_, h.keep.grown hg fun k e => by have := (hgv k e).1; have := h.szA; omega, h.szA, h2, h3, h4⟩, ⟨free, low⟩⟩
 intro i e e'
 rcases hat with h' | h'
 · exact h.ne i e (h' ▸ e')
 · rw [h'] at e'
   have := Option.some.inj e'
   have := (hgk i e).2
   omega
theorem PI.new {w4 : World} {y : J} {cs : List Value} (h : PI B R M b WA ks acc vk vl W) (hj : isJ (New W w4) w4 y cs) (o : Obj) : isJ (Free B vk vl (w4.alloc o)) (w4.alloc o) y cs := by
 have hs := h.size
 obtain ⟨xs, h1, h2⟩ := h.vals
 refine hj.carry fun k hk' => ⟨⟨by have := hk'.1; omega, by have := hk'.2; simp; omega, fun e => ?_, fun e => ?_⟩, Below.heap_alloc _ _ _ hk'.2⟩
 · have := (own_ge h.keys k e).2
   have := hk'.1
   omega
 · have := (own_ge h1 k e).2
   have := hk'.1
   omega
theorem PI.free_new {w4 : World} (h : PI B R M b WA ks acc vk vl w4) (o : Obj) : Free B vk vl (w4.alloc o) w4.heap.size := by
 have hs := h.size
 obtain ⟨xs, h1, h2⟩ := h.vals
 refine ⟨by omega, by simp, fun e => ?_, fun e => ?_⟩
 · have := (own_ge h.keys _ e).2; omega
 · have := (own_ge h1 _ e).2; omega
end
theorem keyAt_new {t : List Int} {ks : List ByteArray} {p q : Nat} {c : ByteArray} (h : keyAt t ks p = .ok c q) : ∀ k ∈ ks, k ≠ c := by
 intro k hk e
 subst e
 unfold keyAt at h
 split at h
 · cases hq : quoted t p with
   | bad e a => rw [hq] at h; cases h
   | ok s r =>
    rw [hq] at h
    simp only [Res.bind] at h
    split at h
    · cases h
    · rename_i hn
      cases hm : must t 58 (blanks t r) with
      | bad e a => rw [hm] at h; cases h
      | ok u v =>
       rw [hm] at h
       simp only [Res.ok.injEq] at h
       apply hn
       rw [List.any_eq_true]
       exact ⟨k, hk, by rw [h.1]; simp⟩
 · cases h
def Lies (B : Nat) (vk vl : Value) (W : World) (n : Nat) (o : Obj) : Prop := Free B vk vl W n ∧ W.heap[n]? = some o
theorem lies5 {B : Nat} {vk vl : Value} {W : World} {n : Nat} {t : TypeId} {y0 y1 y2 y3 y4 : Value} (h : Lies B vk vl W n (.cells #[y0, y1, y2, y3, y4] t (0, 0))) : ∀ j u, [y0, y1, y2, y3, y4][j]? = some u → W.cell? ((⟨n, 0, none⟩ : Addr).add j) = some u := by
 intro j u hj
 have e : (⟨n, 0, none⟩ : Addr).add j = ⟨n, j, none⟩ := by unfold Addr.add; split <;> simp_all
 rw [e]
 exact cell_row (cur := [y0, y1, y2, y3, y4]) h.2 j u hj
theorem lies1 {B : Nat} {vk vl : Value} {W : World} {n : Nat} {t : TypeId} {x : Value} (h : Lies B vk vl W n (.cells #[x] t (0, 0))) : ∀ j u, [x][j]? = some u → W.cell? ((⟨n, 0, none⟩ : Addr).add j) = some u := by
 intro j u hj
 have e : (⟨n, 0, none⟩ : Addr).add j = ⟨n, j, none⟩ := by unfold Addr.add; split <;> simp_all
 rw [e]
 exact cell_row (cur := [x]) h.2 j u hj
structure RS (B R M b : Nat) (WA : World) (ks : List ByteArray) (acc : List J) (vk vl : Value) (s : ByteArray) (q : Nat) (e l : Int) (st : List ByteArray) (y : J) (y0 y1 y2 y3 y4 : Value) (nv : Nat) (W : World) : Prop where
 pi : PI B R M b WA ks acc vk vl W
 y : isJ (Free B vk vl W) W y [y0, y1, y2, y3, y4]
 blk : Lies B vk vl W nv (.cells #[y0, y1, y2, y3, y4] 25 (0, 0))
 rdr : Rdr W R s q e l
 st : Stood W M st
section
variable {B R M b : Nat} {WA W W' : World} {ks ks' : List ByteArray} {acc acc' : List J} {vk vl vk' vl' : Value} {s : ByteArray} {q : Nat} {e l : Int} {st : List ByteArray} {y : J} {y0 y1 y2 y3 y4 : Value} {nv n : Nat} {o : Obj}
theorem Lies.go (h : Lies B vk vl W n o) (g : Goes B vk vl W vk' vl' W') : Lies B vk' vl' W' n o := ⟨(g.free n h.1).1, (g.free n h.1).2.trans h.2⟩
theorem RS.go (h : RS B R M b WA ks acc vk vl s q e l st y y0 y1 y2 y3 y4 nv W) (p : PI B R M b WA ks' acc' vk' vl' W') (g : Goes B vk vl W vk' vl' W') : RS B R M b WA ks' acc' vk' vl' s q e l st y y0 y1 y2 y3 y4 nv W' := by
 have h1 := p.rb
 have h2 := p.bm
 have h3 := p.mB
 exact ⟨p, h.y.carry g.free, h.blk.go g, (g.low R (by omega)).trans h.rdr, h.st.at (g.low M h3)⟩
theorem PI.goes (h : PI B R M b WA ks acc vk vl W) (o : Obj) : Goes B vk vl W vk vl (W.alloc o) := Goes.keep h.size ((Keep.refl _ _).alloc o)
theorem RS.alloc (h : RS B R M b WA ks acc vk vl s q e l st y y0 y1 y2 y3 y4 nv W) (o : Obj) : RS B R M b WA ks acc vk vl s q e l st y y0 y1 y2 y3 y4 nv (W.alloc o) := h.go (h.pi.alloc o) (h.pi.goes o)
theorem PI.lies (h : PI B R M b WA ks acc vk vl W) (cs : Array Value) (t : TypeId) (hn : W.heap.size = n) : Lies B vk vl (W.alloc (.cells cs t)) n (.cells cs t (0, 0)) := by
 subst hn
 exact ⟨h.free_new _, heap_alloc_new _ _⟩
theorem PI.mapOf {qk ql : Option Addr} {nk ck nl cl : Nat} (h : PI B R M b WA ks acc (.slice qk nk ck) (.slice ql nl cl) W) (hlen : ks.length = acc.length) (hn : ks.length ≤ 100000) (hd : ks.Pairwise (· ≠ ·)) :
    Calls Tryz.prog 104 #[.slice qk nk ck, .slice ql nl cl] W fun x w' => ∃ k i t pk nk ck pl nl cl, x = .returned (.agg #[.int .i64 k, .int .i64 i, .string t, .slice pk nk ck, .slice pl nl cl]) ∧ isJ (fun k => B ≤ k ∧ k < w'.heap.size) w' (Go.Proofs.YtegcgbjjpgjnmaaGreatDoor.mapOf ks acc) [.int .i64 k, .int .i64 i, .string t, .slice pk nk ck, .slice pl nl cl] ∧ Below W.heap.size W w' := by
 have hB := h.size
 obtain ⟨xs, hv1, hv2⟩ := h.vals
 obtain ⟨q1, c1, e1, hrk⟩ := own_rdK h.keys
 obtain ⟨q2, c2, e2, hc2, hrj⟩ := own_js hv1 hv2
 cases e1
 cases e2
 have hrj' : isJs (fun k => B ≤ k ∧ k < W.heap.size) W ql 0 acc := hrj.carry fun k hk => ⟨by rcases hk with hk | hk; exact ⟨hk.1, hk.2.1⟩; exact hk, rfl⟩
 refine (mapOf_any hrk hrj' hlen (fun k hk => hk.2) hn hd).mono ?_
 rintro x w' ⟨cs, rfl, hj, hb⟩
 have hs := hb.size
 have hj' : isJ (fun k => B ≤ k ∧ k < w'.heap.size) w' (Go.Proofs.YtegcgbjjpgjnmaaGreatDoor.mapOf ks acc) cs.toList := hj.carry fun k hk => ⟨by
  rcases hk with hk | hk
  · exact ⟨hk.1, by have := hk.2; omega⟩
  · exact ⟨by have := hk.1; omega, hk.2⟩, rfl⟩
 have hE : ∃ k i t pk nk ck pl nl cl, cs.toList = [.int .i64 k, .int .i64 i, .string t, .slice pk nk ck, .slice pl nl cl] := by
  have h2 := hj'
  unfold Go.Proofs.YtegcgbjjpgjnmaaGreatDoor.mapOf isJ at h2
  obtain ⟨pk, ck, pl, cl, e, _⟩ := h2
  exact ⟨_, _, _, _, _, _, _, _, _, e⟩
 obtain ⟨k, i, t, pk, nk, ck, pl, nl, cl, e⟩ := hE
 have e' : cs = #[.int .i64 k, .int .i64 i, .string t, .slice pk nk ck, .slice pl nl cl] := by rw [← Array.toList_inj]; exact e
 rw [e] at hj'
 exact ⟨k, i, t, pk, nk, ck, pl, nl, cl, by rw [e'], hj', hb⟩
end
theorem pairwise_snoc {ks : List ByteArray} {c : ByteArray} (h : ks.Pairwise (· ≠ ·)) (hn : ∀ k ∈ ks, k ≠ c) : (ks ++ [c]).Pairwise (· ≠ ·) := by
 rw [List.pairwise_append]
 exact ⟨h, List.pairwise_singleton _ _, fun a ha b hb => by rw [List.mem_singleton.1 hb]; exact hn a ha⟩
end Go.Proofs.YtegcgbjjpgjnmaaGreatDoor
