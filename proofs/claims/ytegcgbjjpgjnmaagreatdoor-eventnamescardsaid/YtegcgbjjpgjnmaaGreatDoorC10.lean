/-
  A value read, by a contract: to the depth that may be.
  The whole text read, by a contract.
  The first byte that is no letter's, by a contract.
-/
import Derived.Test.YtegcgbjjpgjnmaaGreatDoorC09
set_option maxRecDepth 100000
set_option maxHeartbeats 16000000
namespace Go.Proofs.YtegcgbjjpgjnmaaGreatDoor
open Go.RowKit
section
variable {w w3 W5 : World} {R q : Nat} {s : ByteArray} {e l : Int} {o : Obj}
theorem val_keep (hk3 : Keep (One R) (w.alloc o) w3) (HK5 : Keep (One w.heap.size) w3 W5) : Keep (One R) w W5 :=
 (((Keep.refl (One R) w).alloc o).then hk3).trans HK5 fun i hi h => by unfold One at h; omega
theorem val_ok (hk3 : Keep (One R) (w.alloc o) w3) (hr3 : Rdr w3 R s q e l) (HK5 : Keep (One w.heap.size) w3 W5) (hR : R < w.heap.size) : OkAt w W5 R s q :=
 ⟨⟨e, l, hr3.keep HK5 (fun h => by unfold One at h; omega)⟩, val_keep hk3 HK5⟩
theorem val_bad {la : Nat} (hk3 : Keep (One R) (w.alloc o) w3) (hr3 : Rdr w3 R s q e la) (HK5 : Keep (One w.heap.size) w3 W5) (hR : R < w.heap.size) : BadAt w W5 R s e la :=
 ⟨⟨q, hr3.keep HK5 (fun h => by unfold One at h; omega)⟩, val_keep hk3 HK5⟩
theorem val_j {j : J} {cs : List Value} (hj : isJ (New (w.alloc o) w3) w3 j cs) (HK5 : Keep (One w.heap.size) w3 W5) : isJ (New w W5) W5 j cs := by
 have hs := HK5.size
 refine hj.carry fun k hk => ?_
 have h1 := hk.1
 have h2 := hk.2
 simp at h1
 exact ⟨⟨by omega, by omega⟩, HK5.block k h2 (by unfold One; omega)⟩
end
theorem reads_zero : Reads 0 := by
 intro w R p s e l deep hr hs hp hdeep
 have h13 : deep = 13 := by omega
 clear hdeep
 subst h13
 have hsz := hs
 unfold short at hsz
 have hR := hr.lt
 have hra : Rdr (w.alloc zJ) R s p e l := hr.keep (S := fun _ => False) ((Keep.refl _ _).alloc _) (fun h => h)
 have c1 := hra.c1
 have pk := peek_any hra
 have bg := begins_any (byteAt (ints s) p) (w.alloc zJ)
 cases hb : begins (byteAt (ints s) p) with
 | true =>
  have HX : Hid (value (ints s) 0 p = .bad 12 p) := by unfold value; rw [if_pos hb]; rfl
  rw [hb] at bg
  unfold zJ at c1 pk bg
  go_enter Tryz.func115, Tryz.ntmps115
  go_wp2_with (first
   | (go_at_call 138; refine pk.mono ?_; rintro x w' ⟨rfl, rfl⟩)
   | (go_at_call 139; refine bg.mono ?_; rintro x w' ⟨rfl, rfl⟩)
   | (go_at_call 116; refine (fail_any hra 12 (p : Int)).mono ?_; rintro x w3 ⟨rfl, hr3, hk3⟩
      have hres := json_keep hk3 hR
      have i0 := five_c0 hres; have i1 := five_c1 hres; have i2 := five_c2 hres; have i3 := five_c3 hres; have i4 := five_c4 hres
      have z0 := five_fz hres 0; have z1 := five_fz hres 1; have z2 := five_fz hres 2; have z3 := five_fz hres 3; have z4 := five_fz hres 4))
  have h5 := set5_heap hres (.int .i64 0) (.int .i64 0) (.string ⟨#[]⟩) (.slice none 0 0) (.slice none 0 0)
  have HK5 : Keep (One w.heap.size) w3 _ := set5_keep w3 w.heap.size (.int .i64 0) (.int .i64 0) (.string ⟨#[]⟩) (.slice none 0 0) (.slice none 0 0)
  unfold set5 at h5 HK5
  have k0 := five_c0 h5; have k1 := five_c1 h5; have k2 := five_c2 h5; have k3 := five_c3 h5; have k4 := five_c4 h5
  refine bodyPost_ret (v := .tuple #[.agg #[.int .i64 0, .int .i64 0, .string ⟨#[]⟩, .slice none 0 0, .slice none 0 0], .bool false]) (by simp [results, Tryz.results115, go_sem, k0, k1, k2, k3, k4]) rfl ?_
  rw [HX.out]
  exact ⟨⟨0, 0, nix, rfl⟩, val_bad hk3 hr3 HK5 hR⟩
 | false =>
  have HX : Hid (value (ints s) 0 p = .bad 11 p) := by unfold value; rw [if_neg (by simp [hb])]; rfl
  rw [hb] at bg
  unfold zJ at c1 pk bg
  go_enter Tryz.func115, Tryz.ntmps115
  go_wp2_with (first
   | (go_at_call 138; refine pk.mono ?_; rintro x w' ⟨rfl, rfl⟩)
   | (go_at_call 139; refine bg.mono ?_; rintro x w' ⟨rfl, rfl⟩)
   | (go_at_call 116; refine (fail_any hra 11 (p : Int)).mono ?_; rintro x w3 ⟨rfl, hr3, hk3⟩
      have hres := json_keep hk3 hR
      have i0 := five_c0 hres; have i1 := five_c1 hres; have i2 := five_c2 hres; have i3 := five_c3 hres; have i4 := five_c4 hres
      have z0 := five_fz hres 0; have z1 := five_fz hres 1; have z2 := five_fz hres 2; have z3 := five_fz hres 3; have z4 := five_fz hres 4))
  have h5 := set5_heap hres (.int .i64 0) (.int .i64 0) (.string ⟨#[]⟩) (.slice none 0 0) (.slice none 0 0)
  have HK5 : Keep (One w.heap.size) w3 _ := set5_keep w3 w.heap.size (.int .i64 0) (.int .i64 0) (.string ⟨#[]⟩) (.slice none 0 0) (.slice none 0 0)
  unfold set5 at h5 HK5
  have k0 := five_c0 h5; have k1 := five_c1 h5; have k2 := five_c2 h5; have k3 := five_c3 h5; have k4 := five_c4 h5
  refine bodyPost_ret (v := .tuple #[.agg #[.int .i64 0, .int .i64 0, .string ⟨#[]⟩, .slice none 0 0, .slice none 0 0], .bool false]) (by simp [results, Tryz.results115, go_sem, k0, k1, k2, k3, k4]) rfl ?_
  rw [HX.out]
  exact ⟨⟨0, 0, nix, rfl⟩, val_bad hk3 hr3 HK5 hR⟩
theorem reads_succ {d : Nat} (V : Reads d) (hd : d + 1 ≤ 12) : Reads (d + 1) := by
 intro w R p s e l deep hr hs hp hdeep
 have hd0 : 0 ≤ deep := by omega
 have hd1 : deep ≤ 12 := by omega
 have HD : Hid (deep = 12 - (d : Int)) := by show deep = _; omega
 clear hdeep
 have hsz := hs
 unfold short at hsz
 have hR := hr.lt
 have hra : Rdr (w.alloc zJ) R s p e l := hr.keep (S := fun _ => False) ((Keep.refl _ _).alloc _) (fun h => h)
 have c1 := hra.c1
 have pk := peek_any hra
 have bg := begins_any (byteAt (ints s) p) (w.alloc zJ)
 cases hb : begins (byteAt (ints s) p) with
 | false =>
  have HX : Hid (value (ints s) (d + 1) p = .bad 11 p) := by unfold value; rw [if_neg (by simp [hb])]; rfl
  rw [hb] at bg
  unfold zJ at c1 pk bg
  go_enter Tryz.func115, Tryz.ntmps115
  go_wp2_with (first
   | (go_at_call 138; refine pk.mono ?_; rintro x w' ⟨rfl, rfl⟩)
   | (go_at_call 139; refine bg.mono ?_; rintro x w' ⟨rfl, rfl⟩)
   | (go_at_call 116; refine (fail_any hra 11 (p : Int)).mono ?_; rintro x w3 ⟨rfl, hr3, hk3⟩
      have hres := json_keep hk3 hR
      have i0 := five_c0 hres; have i1 := five_c1 hres; have i2 := five_c2 hres; have i3 := five_c3 hres; have i4 := five_c4 hres
      have z0 := five_fz hres 0; have z1 := five_fz hres 1; have z2 := five_fz hres 2; have z3 := five_fz hres 3; have z4 := five_fz hres 4))
  have h5 := set5_heap hres (.int .i64 0) (.int .i64 0) (.string ⟨#[]⟩) (.slice none 0 0) (.slice none 0 0)
  have HK5 : Keep (One w.heap.size) w3 _ := set5_keep w3 w.heap.size (.int .i64 0) (.int .i64 0) (.string ⟨#[]⟩) (.slice none 0 0) (.slice none 0 0)
  unfold set5 at h5 HK5
  have k0 := five_c0 h5; have k1 := five_c1 h5; have k2 := five_c2 h5; have k3 := five_c3 h5; have k4 := five_c4 h5
  refine bodyPost_ret (v := .tuple #[.agg #[.int .i64 0, .int .i64 0, .string ⟨#[]⟩, .slice none 0 0, .slice none 0 0], .bool false]) (by simp [results, Tryz.results115, go_sem, k0, k1, k2, k3, k4]) rfl ?_
  rw [HX.out]
  exact ⟨⟨0, 0, nix, rfl⟩, val_bad hk3 hr3 HK5 hR⟩
 | true =>
  rw [hb] at bg
  have hlt : p < s.size := by
   have := byteAt_lt (t := ints s) (p := p) (by intro h; rw [h] at hb; exact absurd hb (by decide))
   rw [ints_length] at this; exact this
  by_cases n110 : byteAt (ints s) p = 110
  · skip
    rw [n110] at pk bg
    have ct : Calls Tryz.prog 140 #[.pointer (some ⟨R, 0, none⟩), .string ⟨#[110, 117, 108, 108]⟩] (w.alloc zJ) fun x w' => boolTold (w.alloc zJ) w' R s (word (ints s) [110, 117, 108, 108] p) x := word_any hra (by omega) ⟨#[110, 117, 108, 108]⟩ (by decide)
    cases hv : word (ints s) [110, 117, 108, 108] p with
    | bad er la =>
     have HX : Hid (value (ints s) (d + 1) p = .bad er la) := by unfold value; rw [if_pos hb, if_pos n110, hv]; rfl
     rw [hv] at ct
     unfold zJ at c1 pk bg ct
     go_enter Tryz.func115, Tryz.ntmps115
     go_wp2_with (first
      | (go_at_call 138; refine pk.mono ?_; rintro x w' ⟨rfl, rfl⟩)
      | (go_at_call 139; refine bg.mono ?_; rintro x w' ⟨rfl, rfl⟩)
      | (go_at_call 140; refine ct.mono ?_; rintro x w3 ⟨rfl, ⟨⟨q3, hr3⟩, hk3⟩⟩
         have hres := json_keep hk3 hR
         have i0 := five_c0 hres; have i1 := five_c1 hres; have i2 := five_c2 hres; have i3 := five_c3 hres; have i4 := five_c4 hres
         have z0 := five_fz hres 0; have z1 := five_fz hres 1; have z2 := five_fz hres 2; have z3 := five_fz hres 3; have z4 := five_fz hres 4))
     have h5 := set5_heap hres (.int .i64 0) (.int .i64 0) (.string ⟨#[]⟩) (.slice none 0 0) (.slice none 0 0)
     have HK5 : Keep (One w.heap.size) w3 _ := set5_keep w3 w.heap.size (.int .i64 0) (.int .i64 0) (.string ⟨#[]⟩) (.slice none 0 0) (.slice none 0 0)
     unfold set5 at h5 HK5
     have k0 := five_c0 h5; have k1 := five_c1 h5; have k2 := five_c2 h5; have k3 := five_c3 h5; have k4 := five_c4 h5
     refine bodyPost_ret (v := .tuple #[.agg #[.int .i64 0, .int .i64 0, .string ⟨#[]⟩, .slice none 0 0, .slice none 0 0], .bool false]) (by simp [results, Tryz.results115, go_sem, k0, k1, k2, k3, k4]) rfl ?_
     rw [HX.out]
     exact ⟨⟨0, 0, nix, rfl⟩, val_bad hk3 hr3 HK5 hR⟩
    | ok u qv =>
     have HX : Hid (value (ints s) (d + 1) p = .ok (.mk 0 0 nix [] []) qv) := by unfold value; rw [if_pos hb, if_pos n110, hv]; rfl
     rw [hv] at ct
     unfold zJ at c1 pk bg ct
     go_enter Tryz.func115, Tryz.ntmps115
     go_wp2_with (first
      | (go_at_call 138; refine pk.mono ?_; rintro x w' ⟨rfl, rfl⟩)
      | (go_at_call 139; refine bg.mono ?_; rintro x w' ⟨rfl, rfl⟩)
      | (go_at_call 140; refine ct.mono ?_; rintro x w3 ⟨rfl, ⟨⟨e3, l3, hr3⟩, hk3⟩⟩
         have hres := json_keep hk3 hR
         have i0 := five_c0 hres; have i1 := five_c1 hres; have i2 := five_c2 hres; have i3 := five_c3 hres; have i4 := five_c4 hres
         have z0 := five_fz hres 0; have z1 := five_fz hres 1; have z2 := five_fz hres 2; have z3 := five_fz hres 3; have z4 := five_fz hres 4))
     have h5 := set5_heap hres (.int .i64 0) (.int .i64 0) (.string ⟨#[]⟩) (.slice none 0 0) (.slice none 0 0)
     have HK5 : Keep (One w.heap.size) w3 _ := set5_keep w3 w.heap.size (.int .i64 0) (.int .i64 0) (.string ⟨#[]⟩) (.slice none 0 0) (.slice none 0 0)
     unfold set5 at h5 HK5
     have k0 := five_c0 h5; have k1 := five_c1 h5; have k2 := five_c2 h5; have k3 := five_c3 h5; have k4 := five_c4 h5
     refine bodyPost_ret (v := .tuple #[.agg #[.int .i64 0, .int .i64 0, .string ⟨#[]⟩, .slice none 0 0, .slice none 0 0], .bool true]) (by simp [results, Tryz.results115, go_sem, k0, k1, k2, k3, k4]) rfl ?_
     rw [HX.out]
     exact ⟨⟨_, _, _, _, _, _, _, _, _, rfl, flat_isJ _ _ 0 0 nix⟩, val_ok hk3 hr3 HK5 hR⟩
  by_cases n116 : byteAt (ints s) p = 116
  · skip
    rw [n116] at pk bg
    have ct : Calls Tryz.prog 140 #[.pointer (some ⟨R, 0, none⟩), .string ⟨#[116, 114, 117, 101]⟩] (w.alloc zJ) fun x w' => boolTold (w.alloc zJ) w' R s (word (ints s) [116, 114, 117, 101] p) x := word_any hra (by omega) ⟨#[116, 114, 117, 101]⟩ (by decide)
    cases hv : word (ints s) [116, 114, 117, 101] p with
    | bad er la =>
     have HX : Hid (value (ints s) (d + 1) p = .bad er la) := by unfold value; rw [if_pos hb, if_neg n110, if_pos n116, hv]; rfl
     rw [hv] at ct
     unfold zJ at c1 pk bg ct
     go_enter Tryz.func115, Tryz.ntmps115
     go_wp2_with (first
      | (go_at_call 138; refine pk.mono ?_; rintro x w' ⟨rfl, rfl⟩)
      | (go_at_call 139; refine bg.mono ?_; rintro x w' ⟨rfl, rfl⟩)
      | (go_at_call 140; refine ct.mono ?_; rintro x w3 ⟨rfl, ⟨⟨q3, hr3⟩, hk3⟩⟩
         have hres := json_keep hk3 hR
         have i0 := five_c0 hres; have i1 := five_c1 hres; have i2 := five_c2 hres; have i3 := five_c3 hres; have i4 := five_c4 hres
         have z0 := five_fz hres 0; have z1 := five_fz hres 1; have z2 := five_fz hres 2; have z3 := five_fz hres 3; have z4 := five_fz hres 4))
     have h5 := set5_heap hres (.int .i64 1) (.int .i64 1) (.string ⟨#[]⟩) (.slice none 0 0) (.slice none 0 0)
     have HK5 : Keep (One w.heap.size) w3 _ := set5_keep w3 w.heap.size (.int .i64 1) (.int .i64 1) (.string ⟨#[]⟩) (.slice none 0 0) (.slice none 0 0)
     unfold set5 at h5 HK5
     have k0 := five_c0 h5; have k1 := five_c1 h5; have k2 := five_c2 h5; have k3 := five_c3 h5; have k4 := five_c4 h5
     refine bodyPost_ret (v := .tuple #[.agg #[.int .i64 1, .int .i64 1, .string ⟨#[]⟩, .slice none 0 0, .slice none 0 0], .bool false]) (by simp [results, Tryz.results115, go_sem, k0, k1, k2, k3, k4]) rfl ?_
     rw [HX.out]
     exact ⟨⟨1, 1, nix, rfl⟩, val_bad hk3 hr3 HK5 hR⟩
    | ok u qv =>
     have HX : Hid (value (ints s) (d + 1) p = .ok (.mk 1 1 nix [] []) qv) := by unfold value; rw [if_pos hb, if_neg n110, if_pos n116, hv]; rfl
     rw [hv] at ct
     unfold zJ at c1 pk bg ct
     go_enter Tryz.func115, Tryz.ntmps115
     go_wp2_with (first
      | (go_at_call 138; refine pk.mono ?_; rintro x w' ⟨rfl, rfl⟩)
      | (go_at_call 139; refine bg.mono ?_; rintro x w' ⟨rfl, rfl⟩)
      | (go_at_call 140; refine ct.mono ?_; rintro x w3 ⟨rfl, ⟨⟨e3, l3, hr3⟩, hk3⟩⟩
         have hres := json_keep hk3 hR
         have i0 := five_c0 hres; have i1 := five_c1 hres; have i2 := five_c2 hres; have i3 := five_c3 hres; have i4 := five_c4 hres
         have z0 := five_fz hres 0; have z1 := five_fz hres 1; have z2 := five_fz hres 2; have z3 := five_fz hres 3; have z4 := five_fz hres 4))
     have h5 := set5_heap hres (.int .i64 1) (.int .i64 1) (.string ⟨#[]⟩) (.slice none 0 0) (.slice none 0 0)
     have HK5 : Keep (One w.heap.size) w3 _ := set5_keep w3 w.heap.size (.int .i64 1) (.int .i64 1) (.string ⟨#[]⟩) (.slice none 0 0) (.slice none 0 0)
     unfold set5 at h5 HK5
     have k0 := five_c0 h5; have k1 := five_c1 h5; have k2 := five_c2 h5; have k3 := five_c3 h5; have k4 := five_c4 h5
     refine bodyPost_ret (v := .tuple #[.agg #[.int .i64 1, .int .i64 1, .string ⟨#[]⟩, .slice none 0 0, .slice none 0 0], .bool true]) (by simp [results, Tryz.results115, go_sem, k0, k1, k2, k3, k4]) rfl ?_
     rw [HX.out]
     exact ⟨⟨_, _, _, _, _, _, _, _, _, rfl, flat_isJ _ _ 1 1 nix⟩, val_ok hk3 hr3 HK5 hR⟩
  by_cases n102 : byteAt (ints s) p = 102
  · skip
    rw [n102] at pk bg
    have ct : Calls Tryz.prog 140 #[.pointer (some ⟨R, 0, none⟩), .string ⟨#[102, 97, 108, 115, 101]⟩] (w.alloc zJ) fun x w' => boolTold (w.alloc zJ) w' R s (word (ints s) [102, 97, 108, 115, 101] p) x := word_any hra (by omega) ⟨#[102, 97, 108, 115, 101]⟩ (by decide)
    cases hv : word (ints s) [102, 97, 108, 115, 101] p with
    | bad er la =>
     have HX : Hid (value (ints s) (d + 1) p = .bad er la) := by unfold value; rw [if_pos hb, if_neg n110, if_neg n116, if_pos n102, hv]; rfl
     rw [hv] at ct
     unfold zJ at c1 pk bg ct
     go_enter Tryz.func115, Tryz.ntmps115
     go_wp2_with (first
      | (go_at_call 138; refine pk.mono ?_; rintro x w' ⟨rfl, rfl⟩)
      | (go_at_call 139; refine bg.mono ?_; rintro x w' ⟨rfl, rfl⟩)
      | (go_at_call 140; refine ct.mono ?_; rintro x w3 ⟨rfl, ⟨⟨q3, hr3⟩, hk3⟩⟩
         have hres := json_keep hk3 hR
         have i0 := five_c0 hres; have i1 := five_c1 hres; have i2 := five_c2 hres; have i3 := five_c3 hres; have i4 := five_c4 hres
         have z0 := five_fz hres 0; have z1 := five_fz hres 1; have z2 := five_fz hres 2; have z3 := five_fz hres 3; have z4 := five_fz hres 4))
     have h5 := set5_heap hres (.int .i64 1) (.int .i64 0) (.string ⟨#[]⟩) (.slice none 0 0) (.slice none 0 0)
     have HK5 : Keep (One w.heap.size) w3 _ := set5_keep w3 w.heap.size (.int .i64 1) (.int .i64 0) (.string ⟨#[]⟩) (.slice none 0 0) (.slice none 0 0)
     unfold set5 at h5 HK5
     have k0 := five_c0 h5; have k1 := five_c1 h5; have k2 := five_c2 h5; have k3 := five_c3 h5; have k4 := five_c4 h5
     refine bodyPost_ret (v := .tuple #[.agg #[.int .i64 1, .int .i64 0, .string ⟨#[]⟩, .slice none 0 0, .slice none 0 0], .bool false]) (by simp [results, Tryz.results115, go_sem, k0, k1, k2, k3, k4]) rfl ?_
     rw [HX.out]
     exact ⟨⟨1, 0, nix, rfl⟩, val_bad hk3 hr3 HK5 hR⟩
    | ok u qv =>
     have HX : Hid (value (ints s) (d + 1) p = .ok (.mk 1 0 nix [] []) qv) := by unfold value; rw [if_pos hb, if_neg n110, if_neg n116, if_pos n102, hv]; rfl
     rw [hv] at ct
     unfold zJ at c1 pk bg ct
     go_enter Tryz.func115, Tryz.ntmps115
     go_wp2_with (first
      | (go_at_call 138; refine pk.mono ?_; rintro x w' ⟨rfl, rfl⟩)
      | (go_at_call 139; refine bg.mono ?_; rintro x w' ⟨rfl, rfl⟩)
      | (go_at_call 140; refine ct.mono ?_; rintro x w3 ⟨rfl, ⟨⟨e3, l3, hr3⟩, hk3⟩⟩
         have hres := json_keep hk3 hR
         have i0 := five_c0 hres; have i1 := five_c1 hres; have i2 := five_c2 hres; have i3 := five_c3 hres; have i4 := five_c4 hres
         have z0 := five_fz hres 0; have z1 := five_fz hres 1; have z2 := five_fz hres 2; have z3 := five_fz hres 3; have z4 := five_fz hres 4))
     have h5 := set5_heap hres (.int .i64 1) (.int .i64 0) (.string ⟨#[]⟩) (.slice none 0 0) (.slice none 0 0)
     have HK5 : Keep (One w.heap.size) w3 _ := set5_keep w3 w.heap.size (.int .i64 1) (.int .i64 0) (.string ⟨#[]⟩) (.slice none 0 0) (.slice none 0 0)
     unfold set5 at h5 HK5
     have k0 := five_c0 h5; have k1 := five_c1 h5; have k2 := five_c2 h5; have k3 := five_c3 h5; have k4 := five_c4 h5
     refine bodyPost_ret (v := .tuple #[.agg #[.int .i64 1, .int .i64 0, .string ⟨#[]⟩, .slice none 0 0, .slice none 0 0], .bool true]) (by simp [results, Tryz.results115, go_sem, k0, k1, k2, k3, k4]) rfl ?_
     rw [HX.out]
     exact ⟨⟨_, _, _, _, _, _, _, _, _, rfl, flat_isJ _ _ 1 0 nix⟩, val_ok hk3 hr3 HK5 hR⟩
  by_cases n34 : byteAt (ints s) p = 34
  · skip
    rw [n34] at pk bg
    have ct := quoted_any hra hs hlt
    cases hv : quoted (ints s) p with
    | bad er la =>
     have HX : Hid (value (ints s) (d + 1) p = .bad er la) := by unfold value; rw [if_pos hb, if_neg n110, if_neg n116, if_neg n102, if_pos n34, hv]; rfl
     rw [hv] at ct
     unfold zJ at c1 pk bg ct
     go_enter Tryz.func115, Tryz.ntmps115
     go_wp2_with (first
      | (go_at_call 138; refine pk.mono ?_; rintro x w' ⟨rfl, rfl⟩)
      | (go_at_call 139; refine bg.mono ?_; rintro x w' ⟨rfl, rfl⟩)
      | (go_at_call 141; refine ct.mono ?_; rintro x w3 ⟨rfl, ⟨⟨q3, hr3⟩, hk3⟩⟩
         unfold nix
         have hres := json_keep hk3 hR
         have i0 := five_c0 hres; have i1 := five_c1 hres; have i2 := five_c2 hres; have i3 := five_c3 hres; have i4 := five_c4 hres
         have z0 := five_fz hres 0; have z1 := five_fz hres 1; have z2 := five_fz hres 2; have z3 := five_fz hres 3; have z4 := five_fz hres 4))
     have h5 := set5_heap hres (.int .i64 3) (.int .i64 0) (.string ⟨#[]⟩) (.slice none 0 0) (.slice none 0 0)
     have HK5 : Keep (One w.heap.size) w3 _ := set5_keep w3 w.heap.size (.int .i64 3) (.int .i64 0) (.string ⟨#[]⟩) (.slice none 0 0) (.slice none 0 0)
     unfold set5 at h5 HK5
     have k0 := five_c0 h5; have k1 := five_c1 h5; have k2 := five_c2 h5; have k3 := five_c3 h5; have k4 := five_c4 h5
     refine bodyPost_ret (v := .tuple #[.agg #[.int .i64 3, .int .i64 0, .string ⟨#[]⟩, .slice none 0 0, .slice none 0 0], .bool false]) (by simp [results, Tryz.results115, go_sem, k0, k1, k2, k3, k4]) rfl ?_
     rw [HX.out]
     exact ⟨⟨3, 0, nix, rfl⟩, val_bad hk3 hr3 HK5 hR⟩
    | ok cq qv =>
     have HX : Hid (value (ints s) (d + 1) p = .ok (.mk 3 0 (strOfNums cq) [] []) qv) := by unfold value; rw [if_pos hb, if_neg n110, if_neg n116, if_neg n102, if_pos n34, hv]; rfl
     rw [hv] at ct
     unfold zJ at c1 pk bg ct
     go_enter Tryz.func115, Tryz.ntmps115
     go_wp2_with (first
      | (go_at_call 138; refine pk.mono ?_; rintro x w' ⟨rfl, rfl⟩)
      | (go_at_call 139; refine bg.mono ?_; rintro x w' ⟨rfl, rfl⟩)
      | (go_at_call 141; refine ct.mono ?_; rintro x w3 ⟨rfl, ⟨⟨e3, l3, hr3⟩, hk3⟩⟩
         have hres := json_keep hk3 hR
         have i0 := five_c0 hres; have i1 := five_c1 hres; have i2 := five_c2 hres; have i3 := five_c3 hres; have i4 := five_c4 hres
         have z0 := five_fz hres 0; have z1 := five_fz hres 1; have z2 := five_fz hres 2; have z3 := five_fz hres 3; have z4 := five_fz hres 4))
     have h5 := set5_heap hres (.int .i64 3) (.int .i64 0) (.string (strOfNums cq)) (.slice none 0 0) (.slice none 0 0)
     have HK5 : Keep (One w.heap.size) w3 _ := set5_keep w3 w.heap.size (.int .i64 3) (.int .i64 0) (.string (strOfNums cq)) (.slice none 0 0) (.slice none 0 0)
     unfold set5 at h5 HK5
     have k0 := five_c0 h5; have k1 := five_c1 h5; have k2 := five_c2 h5; have k3 := five_c3 h5; have k4 := five_c4 h5
     refine bodyPost_ret (v := .tuple #[.agg #[.int .i64 3, .int .i64 0, .string (strOfNums cq), .slice none 0 0, .slice none 0 0], .bool true]) (by simp [results, Tryz.results115, go_sem, k0, k1, k2, k3, k4]) rfl ?_
     rw [HX.out]
     exact ⟨⟨_, _, _, _, _, _, _, _, _, rfl, flat_isJ _ _ 3 0 (strOfNums cq)⟩, val_ok hk3 hr3 HK5 hR⟩
  by_cases n91 : byteAt (ints s) p = 91
  · skip
    rw [n91] at pk bg
    have ct := list_any V hra hs hlt HD.out (by omega)
    cases hv : listAt (ints s) (value (ints s) d) p with
    | bad er la =>
     have HX : Hid (value (ints s) (d + 1) p = .bad er la) := by unfold value; rw [if_pos hb, if_neg n110, if_neg n116, if_neg n102, if_neg n34, if_pos n91, hv]; rfl
     rw [hv] at ct
     unfold zJ at c1 pk bg ct
     go_enter Tryz.func115, Tryz.ntmps115
     go_wp2_with (first
      | (go_at_call 138; refine pk.mono ?_; rintro x w' ⟨rfl, rfl⟩)
      | (go_at_call 139; refine bg.mono ?_; rintro x w' ⟨rfl, rfl⟩)
      | (go_at_call 142; refine ct.mono ?_; rintro x w3 ⟨⟨kv, iv, tv, rfl⟩, ⟨q3, hr3⟩, hk3⟩
         unfold flat
         have hres := json_keep hk3 hR
         have i0 := five_c0 hres; have i1 := five_c1 hres; have i2 := five_c2 hres; have i3 := five_c3 hres; have i4 := five_c4 hres
         have z0 := five_fz hres 0; have z1 := five_fz hres 1; have z2 := five_fz hres 2; have z3 := five_fz hres 3; have z4 := five_fz hres 4))
     have h5 := set5_heap hres (.int .i64 kv) (.int .i64 iv) (.string tv) (.slice none 0 0) (.slice none 0 0)
     have HK5 : Keep (One w.heap.size) w3 _ := set5_keep w3 w.heap.size (.int .i64 kv) (.int .i64 iv) (.string tv) (.slice none 0 0) (.slice none 0 0)
     unfold set5 at h5 HK5
     have k0 := five_c0 h5; have k1 := five_c1 h5; have k2 := five_c2 h5; have k3 := five_c3 h5; have k4 := five_c4 h5
     refine bodyPost_ret (v := .tuple #[.agg #[.int .i64 kv, .int .i64 iv, .string tv, .slice none 0 0, .slice none 0 0], .bool false]) (by simp [results, Tryz.results115, go_sem, k0, k1, k2, k3, k4]) rfl ?_
     rw [HX.out]
     exact ⟨⟨kv, iv, tv, rfl⟩, val_bad hk3 hr3 HK5 hR⟩
    | ok jv qv =>
     have HX : Hid (value (ints s) (d + 1) p = .ok jv qv) := by unfold value; rw [if_pos hb, if_neg n110, if_neg n116, if_neg n102, if_neg n34, if_pos n91, hv]; rfl
     rw [hv] at ct
     unfold zJ at c1 pk bg ct
     go_enter Tryz.func115, Tryz.ntmps115
     go_wp2_with (first
      | (go_at_call 138; refine pk.mono ?_; rintro x w' ⟨rfl, rfl⟩)
      | (go_at_call 139; refine bg.mono ?_; rintro x w' ⟨rfl, rfl⟩)
      | (go_at_call 142; refine ct.mono ?_; rintro x w3 ⟨⟨kv, iv, tv, pk2, nk, ck, pl, nl, cl, rfl, hj⟩, ⟨e3, l3, hr3⟩, hk3⟩
         have hres := json_keep hk3 hR
         have i0 := five_c0 hres; have i1 := five_c1 hres; have i2 := five_c2 hres; have i3 := five_c3 hres; have i4 := five_c4 hres
         have z0 := five_fz hres 0; have z1 := five_fz hres 1; have z2 := five_fz hres 2; have z3 := five_fz hres 3; have z4 := five_fz hres 4))
     have h5 := set5_heap hres (.int .i64 kv) (.int .i64 iv) (.string tv) (.slice pk2 nk ck) (.slice pl nl cl)
     have HK5 : Keep (One w.heap.size) w3 _ := set5_keep w3 w.heap.size (.int .i64 kv) (.int .i64 iv) (.string tv) (.slice pk2 nk ck) (.slice pl nl cl)
     unfold set5 at h5 HK5
     have k0 := five_c0 h5; have k1 := five_c1 h5; have k2 := five_c2 h5; have k3 := five_c3 h5; have k4 := five_c4 h5
     refine bodyPost_ret (v := .tuple #[.agg #[.int .i64 kv, .int .i64 iv, .string tv, .slice pk2 nk ck, .slice pl nl cl], .bool true]) (by simp [results, Tryz.results115, go_sem, k0, k1, k2, k3, k4]) rfl ?_
     rw [HX.out]
     exact ⟨⟨_, _, _, _, _, _, _, _, _, rfl, val_j hj HK5⟩, val_ok hk3 hr3 HK5 hR⟩
  by_cases n123 : byteAt (ints s) p = 123
  · skip
    rw [n123] at pk bg
    have ct := pairs_any V hra hs hlt HD.out (by omega)
    cases hv : pairsAt (ints s) (value (ints s) d) p with
    | bad er la =>
     have HX : Hid (value (ints s) (d + 1) p = .bad er la) := by unfold value; rw [if_pos hb, if_neg n110, if_neg n116, if_neg n102, if_neg n34, if_neg n91, if_pos n123, hv]; rfl
     rw [hv] at ct
     unfold zJ at c1 pk bg ct
     go_enter Tryz.func115, Tryz.ntmps115
     go_wp2_with (first
      | (go_at_call 138; refine pk.mono ?_; rintro x w' ⟨rfl, rfl⟩)
      | (go_at_call 139; refine bg.mono ?_; rintro x w' ⟨rfl, rfl⟩)
      | (go_at_call 143; refine ct.mono ?_; rintro x w3 ⟨⟨kv, iv, tv, rfl⟩, ⟨q3, hr3⟩, hk3⟩
         unfold flat
         have hres := json_keep hk3 hR
         have i0 := five_c0 hres; have i1 := five_c1 hres; have i2 := five_c2 hres; have i3 := five_c3 hres; have i4 := five_c4 hres
         have z0 := five_fz hres 0; have z1 := five_fz hres 1; have z2 := five_fz hres 2; have z3 := five_fz hres 3; have z4 := five_fz hres 4))
     have h5 := set5_heap hres (.int .i64 kv) (.int .i64 iv) (.string tv) (.slice none 0 0) (.slice none 0 0)
     have HK5 : Keep (One w.heap.size) w3 _ := set5_keep w3 w.heap.size (.int .i64 kv) (.int .i64 iv) (.string tv) (.slice none 0 0) (.slice none 0 0)
     unfold set5 at h5 HK5
     have k0 := five_c0 h5; have k1 := five_c1 h5; have k2 := five_c2 h5; have k3 := five_c3 h5; have k4 := five_c4 h5
     refine bodyPost_ret (v := .tuple #[.agg #[.int .i64 kv, .int .i64 iv, .string tv, .slice none 0 0, .slice none 0 0], .bool false]) (by simp [results, Tryz.results115, go_sem, k0, k1, k2, k3, k4]) rfl ?_
     rw [HX.out]
     exact ⟨⟨kv, iv, tv, rfl⟩, val_bad hk3 hr3 HK5 hR⟩
    | ok jv qv =>
     have HX : Hid (value (ints s) (d + 1) p = .ok jv qv) := by unfold value; rw [if_pos hb, if_neg n110, if_neg n116, if_neg n102, if_neg n34, if_neg n91, if_pos n123, hv]; rfl
     rw [hv] at ct
     unfold zJ at c1 pk bg ct
     go_enter Tryz.func115, Tryz.ntmps115
     go_wp2_with (first
      | (go_at_call 138; refine pk.mono ?_; rintro x w' ⟨rfl, rfl⟩)
      | (go_at_call 139; refine bg.mono ?_; rintro x w' ⟨rfl, rfl⟩)
      | (go_at_call 143; refine ct.mono ?_; rintro x w3 ⟨⟨kv, iv, tv, pk2, nk, ck, pl, nl, cl, rfl, hj⟩, ⟨e3, l3, hr3⟩, hk3⟩
         have hres := json_keep hk3 hR
         have i0 := five_c0 hres; have i1 := five_c1 hres; have i2 := five_c2 hres; have i3 := five_c3 hres; have i4 := five_c4 hres
         have z0 := five_fz hres 0; have z1 := five_fz hres 1; have z2 := five_fz hres 2; have z3 := five_fz hres 3; have z4 := five_fz hres 4))
     have h5 := set5_heap hres (.int .i64 kv) (.int .i64 iv) (.string tv) (.slice pk2 nk ck) (.slice pl nl cl)
     have HK5 : Keep (One w.heap.size) w3 _ := set5_keep w3 w.heap.size (.int .i64 kv) (.int .i64 iv) (.string tv) (.slice pk2 nk ck) (.slice pl nl cl)
     unfold set5 at h5 HK5
     have k0 := five_c0 h5; have k1 := five_c1 h5; have k2 := five_c2 h5; have k3 := five_c3 h5; have k4 := five_c4 h5
     refine bodyPost_ret (v := .tuple #[.agg #[.int .i64 kv, .int .i64 iv, .string tv, .slice pk2 nk ck, .slice pl nl cl], .bool true]) (by simp [results, Tryz.results115, go_sem, k0, k1, k2, k3, k4]) rfl ?_
     rw [HX.out]
     exact ⟨⟨_, _, _, _, _, _, _, _, _, rfl, val_j hj HK5⟩, val_ok hk3 hr3 HK5 hR⟩
  have ct := number_any hra hs hp
  cases hv : number (ints s) p with
  | bad er la =>
   have HX : Hid (value (ints s) (d + 1) p = .bad er la) := by unfold value; rw [if_pos hb, if_neg n110, if_neg n116, if_neg n102, if_neg n34, if_neg n91, if_neg n123, hv]; rfl
   rw [hv] at ct
   unfold zJ at c1 pk bg ct
   go_enter Tryz.func115, Tryz.ntmps115
   go_wp2_with (first
    | (go_at_call 138; refine pk.mono ?_; rintro x w' ⟨rfl, rfl⟩)
    | (go_at_call 139; refine bg.mono ?_; rintro x w' ⟨rfl, rfl⟩)
    | (go_at_call 144; refine ct.mono ?_; rintro x w3 ⟨⟨kv, iv, tv, rfl⟩, ⟨q3, hr3⟩, hk3⟩
       unfold flat
       have hres := json_keep hk3 hR
       have i0 := five_c0 hres; have i1 := five_c1 hres; have i2 := five_c2 hres; have i3 := five_c3 hres; have i4 := five_c4 hres
       have z0 := five_fz hres 0; have z1 := five_fz hres 1; have z2 := five_fz hres 2; have z3 := five_fz hres 3; have z4 := five_fz hres 4))
   have h5 := set5_heap hres (.int .i64 kv) (.int .i64 iv) (.string tv) (.slice none 0 0) (.slice none 0 0)
   have HK5 : Keep (One w.heap.size) w3 _ := set5_keep w3 w.heap.size (.int .i64 kv) (.int .i64 iv) (.string tv) (.slice none 0 0) (.slice none 0 0)
   unfold set5 at h5 HK5
   have k0 := five_c0 h5; have k1 := five_c1 h5; have k2 := five_c2 h5; have k3 := five_c3 h5; have k4 := five_c4 h5
   refine bodyPost_ret (v := .tuple #[.agg #[.int .i64 kv, .int .i64 iv, .string tv, .slice none 0 0, .slice none 0 0], .bool false]) (by simp [results, Tryz.results115, go_sem, k0, k1, k2, k3, k4]) rfl ?_
   rw [HX.out]
   exact ⟨⟨kv, iv, tv, rfl⟩, val_bad hk3 hr3 HK5 hR⟩
  | ok jv qv =>
   have HX : Hid (value (ints s) (d + 1) p = .ok jv qv) := by unfold value; rw [if_pos hb, if_neg n110, if_neg n116, if_neg n102, if_neg n34, if_neg n91, if_neg n123, hv]; rfl
   rw [hv] at ct
   unfold zJ at c1 pk bg ct
   go_enter Tryz.func115, Tryz.ntmps115
   go_wp2_with (first
    | (go_at_call 138; refine pk.mono ?_; rintro x w' ⟨rfl, rfl⟩)
    | (go_at_call 139; refine bg.mono ?_; rintro x w' ⟨rfl, rfl⟩)
    | (go_at_call 144; refine ct.mono ?_; rintro x w3 ⟨⟨kv, iv, tv, pk2, nk, ck, pl, nl, cl, rfl, hj⟩, ⟨e3, l3, hr3⟩, hk3⟩
       have hres := json_keep hk3 hR
       have i0 := five_c0 hres; have i1 := five_c1 hres; have i2 := five_c2 hres; have i3 := five_c3 hres; have i4 := five_c4 hres
       have z0 := five_fz hres 0; have z1 := five_fz hres 1; have z2 := five_fz hres 2; have z3 := five_fz hres 3; have z4 := five_fz hres 4))
   have h5 := set5_heap hres (.int .i64 kv) (.int .i64 iv) (.string tv) (.slice pk2 nk ck) (.slice pl nl cl)
   have HK5 : Keep (One w.heap.size) w3 _ := set5_keep w3 w.heap.size (.int .i64 kv) (.int .i64 iv) (.string tv) (.slice pk2 nk ck) (.slice pl nl cl)
   unfold set5 at h5 HK5
   have k0 := five_c0 h5; have k1 := five_c1 h5; have k2 := five_c2 h5; have k3 := five_c3 h5; have k4 := five_c4 h5
   refine bodyPost_ret (v := .tuple #[.agg #[.int .i64 kv, .int .i64 iv, .string tv, .slice pk2 nk ck, .slice pl nl cl], .bool true]) (by simp [results, Tryz.results115, go_sem, k0, k1, k2, k3, k4]) rfl ?_
   rw [HX.out]
   exact ⟨⟨_, _, _, _, _, _, _, _, _, rfl, val_j hj HK5⟩, val_ok hk3 hr3 HK5 hR⟩
theorem reads : ∀ d, d ≤ 12 → Reads d
 | 0, _ => reads_zero
 | d + 1, h => reads_succ (reads d (by omega)) h
theorem new_grow {w w2 w3 w5 : World} {R : Nat} {j : J} {cs : List Value} {o : Obj} (h2 : w.heap.size ≤ w2.heap.size) (hR : R < w2.heap.size) (hj : isJ (New w2 w3) w3 j cs) (hk5 : Keep (One R) (w3.alloc o) w5) : isJ (New w w5) w5 j cs := by
 have hs := hk5.size
 simp at hs
 refine hj.carry fun k hk => ?_
 have h1 := hk.1
 have h3 := hk.2
 exact ⟨⟨by omega, by omega⟩, by rw [hk5.block k (by simp; omega) (by unfold One; omega), Below.heap_alloc _ _ _ h3]⟩
theorem whole_any {w : World} {R : Nat} {s : ByteArray} {e l : Int} (hr : Rdr w R s 0 e l) (hs : short s) :
    Calls Tryz.prog 80 #[.pointer (some ⟨R, 0, none⟩)] w fun x w' => valTold w w' R s (whole (ints s)) x := by
 have hsz := hs
 unfold short at hsz
 have hR := hr.lt
 have hra : Rdr (w.alloc zJ) R s 0 e l := hr.keep (S := fun _ => False) ((Keep.refl _ _).alloc _) (fun h => h)
 have hb1 := blanks_le (t := ints s) (p := 0) (by simp)
 rw [ints_length] at hb1
 have hadv := value_adv (ints s) 12 (blanks (ints s) 0) (by rw [ints_length]; exact hb1)
 have hV := fun (wv : World) (e l : Int) (h : Rdr wv R s (blanks (ints s) 0) e l) => reads 12 (Nat.le_refl _) wv R (blanks (ints s) 0) s e l 1 h hs hb1 rfl
 unfold zJ at hra
 cases hv : value (ints s) 12 (blanks (ints s) 0) with
 | bad er la =>
  have HX : Hid (whole (ints s) = .bad er la) := by unfold whole; rw [hv]; rfl
  rw [hv] at hV
  go_enter Tryz.func80, Tryz.ntmps80
  go_wp2_with (first
   | (go_at_call 114; refine (blanks_any hra hs (Nat.zero_le _)).mono ?_; rintro x w2 ⟨rfl, ⟨⟨e2, l2, hr2⟩, hk2⟩⟩)
   | (go_at_call 115; refine (hV _ _ _ hr2).mono ?_; rintro x w3 ⟨⟨kv, iv, tv, rfl⟩, ⟨q3, hr3⟩, hk3⟩
      unfold flat
      have hr3a : Rdr (w3.alloc (.cells #[.int .i64 kv, .int .i64 iv, .string tv, .slice none 0 0, .slice none 0 0] 25)) R s q3 er la := hr3.keep (S := fun _ => False) ((Keep.refl _ _).alloc _) (fun h => h)
      have hk9 : Keep (One R) (w.alloc zJ) (w3.alloc (.cells #[.int .i64 kv, .int .i64 iv, .string tv, .slice none 0 0, .slice none 0 0] 25)) := (hk2.then hk3).alloc _
      have hres := json_keep hk9 hR
      have i0 := five_c0 hres; have i1 := five_c1 hres; have i2 := five_c2 hres; have i3 := five_c3 hres; have i4 := five_c4 hres
      have z0 := five_fz hres 0; have z1 := five_fz hres 1; have z2 := five_fz hres 2; have z3 := five_fz hres 3; have z4 := five_fz hres 4))
  have h5 := set5_heap hres (.int .i64 0) (.int .i64 0) (.string ⟨#[]⟩) (.slice none 0 0) (.slice none 0 0)
  have HK5 : Keep (One w.heap.size) (w3.alloc (.cells #[.int .i64 kv, .int .i64 iv, .string tv, .slice none 0 0, .slice none 0 0] 25)) _ := set5_keep (w3.alloc (.cells #[.int .i64 kv, .int .i64 iv, .string tv, .slice none 0 0, .slice none 0 0] 25)) w.heap.size (.int .i64 0) (.int .i64 0) (.string ⟨#[]⟩) (.slice none 0 0) (.slice none 0 0)
  unfold set5 at h5 HK5
  have k0 := five_c0 h5; have k1 := five_c1 h5; have k2 := five_c2 h5; have k3 := five_c3 h5; have k4 := five_c4 h5
  refine bodyPost_ret (v := .tuple #[.agg #[.int .i64 0, .int .i64 0, .string ⟨#[]⟩, .slice none 0 0, .slice none 0 0], .bool false]) (by simp [results, Tryz.results80, go_sem, k0, k1, k2, k3, k4]) rfl ?_
  rw [HX.out]
  exact ⟨⟨0, 0, nix, rfl⟩, val_bad hk9 hr3a HK5 hR⟩
 | ok jv qv =>
  rw [hv] at hV hadv
  have hqv : qv ≤ s.size := by have := hadv.2; rw [ints_length] at this; exact this
  clear hadv
  by_cases ht : blanks (ints s) qv < s.size
  · have HX : Hid (whole (ints s) = .bad 16 (blanks (ints s) qv)) := by unfold whole; rw [hv]; show (if _ then _ else _) = _; rw [ints_length, if_pos ht]
    go_enter Tryz.func80, Tryz.ntmps80
    go_wp2_with (first
     | (go_at_call 114; refine (blanks_any hr3a hs hqv).mono ?_; rintro x w5 ⟨rfl, ⟨⟨e5, l5, hr5⟩, hk5⟩⟩
        have c0 := hr5.c0; have c1 := hr5.c1)
     | (go_at_call 114; refine (blanks_any hra hs (Nat.zero_le _)).mono ?_; rintro x w2 ⟨rfl, ⟨⟨e2, l2, hr2⟩, hk2⟩⟩)
     | (go_at_call 115; refine (hV _ _ _ hr2).mono ?_; rintro x w3 ⟨⟨kv, iv, tv, pk, nk, ck, pl, nl, cl, rfl, hj⟩, ⟨e3, l3, hr3⟩, hk3⟩
        have hr3a : Rdr (w3.alloc (.cells #[.int .i64 kv, .int .i64 iv, .string tv, .slice pk nk ck, .slice pl nl cl] 25)) R s qv e3 l3 := hr3.keep (S := fun _ => False) ((Keep.refl _ _).alloc _) (fun h => h)))
    go_quiet (fail)
    have hr5d : Rdr (w5.drewN nq) R s (blanks (ints s) qv) e5 l5 := hr5
    go_wp2_with (first
     | (go_at_call 116; refine (fail_any hr5d 16 (blanks (ints s) qv : Nat)).mono ?_; rintro x w6 ⟨rfl, hr6, hk6⟩
        have hk9 : Keep (One R) (w.alloc zJ) w6 := (((hk2.then hk3).alloc (.cells #[.int .i64 kv, .int .i64 iv, .string tv, .slice pk nk ck, .slice pl nl cl] 25)).then (hk5.drewN nq)).then hk6
        have hres := json_keep hk9 hR
        have i0 := five_c0 hres; have i1 := five_c1 hres; have i2 := five_c2 hres; have i3 := five_c3 hres; have i4 := five_c4 hres
        have z0 := five_fz hres 0; have z1 := five_fz hres 1; have z2 := five_fz hres 2; have z3 := five_fz hres 3; have z4 := five_fz hres 4))
    have h5 := set5_heap hres (.int .i64 0) (.int .i64 0) (.string ⟨#[]⟩) (.slice none 0 0) (.slice none 0 0)
    have HK5 : Keep (One w.heap.size) w6 _ := set5_keep w6 w.heap.size (.int .i64 0) (.int .i64 0) (.string ⟨#[]⟩) (.slice none 0 0) (.slice none 0 0)
    unfold set5 at h5 HK5
    have k0 := five_c0 h5; have k1 := five_c1 h5; have k2 := five_c2 h5; have k3 := five_c3 h5; have k4 := five_c4 h5
    refine bodyPost_ret (v := .tuple #[.agg #[.int .i64 0, .int .i64 0, .string ⟨#[]⟩, .slice none 0 0, .slice none 0 0], .bool false]) (by simp [results, Tryz.results80, go_sem, k0, k1, k2, k3, k4]) rfl ?_
    rw [HX.out]
    exact ⟨⟨0, 0, nix, rfl⟩, val_bad hk9 hr6 HK5 hR⟩
  · have HX : Hid (whole (ints s) = .ok jv (blanks (ints s) qv)) := by unfold whole; rw [hv]; show (if _ then _ else _) = _; rw [ints_length, if_neg ht]
    go_enter Tryz.func80, Tryz.ntmps80
    go_wp2_with (first
     | (go_at_call 114; refine (blanks_any hr3a hs hqv).mono ?_; rintro x w5 ⟨rfl, ⟨⟨e5, l5, hr5⟩, hk5⟩⟩
        have c0 := hr5.c0; have c1 := hr5.c1)
     | (go_at_call 114; refine (blanks_any hra hs (Nat.zero_le _)).mono ?_; rintro x w2 ⟨rfl, ⟨⟨e2, l2, hr2⟩, hk2⟩⟩)
     | (go_at_call 115; refine (hV _ _ _ hr2).mono ?_; rintro x w3 ⟨⟨kv, iv, tv, pk, nk, ck, pl, nl, cl, rfl, hj⟩, ⟨e3, l3, hr3⟩, hk3⟩
        have hr3a : Rdr (w3.alloc (.cells #[.int .i64 kv, .int .i64 iv, .string tv, .slice pk nk ck, .slice pl nl cl] 25)) R s qv e3 l3 := hr3.keep (S := fun _ => False) ((Keep.refl _ _).alloc _) (fun h => h)))
    go_quiet (fail)
    have hk5 := hk5.drewN nq
    have hr5 : Rdr (w5.drewN nq) R s (blanks (ints s) qv) e5 l5 := hr5
    have hk9 : Keep (One R) (w.alloc zJ) (w5.drewN nq) := ((hk2.then hk3).alloc (.cells #[.int .i64 kv, .int .i64 iv, .string tv, .slice pk nk ck, .slice pl nl cl] 25)).then hk5
    have hvb : (w5.drewN nq).heap[w3.heap.size]? = some (.cells #[.int .i64 kv, .int .i64 iv, .string tv, .slice pk nk ck, .slice pl nl cl] 25 (0, 0)) := json_keep hk5 (by have := hk2.size; have := hk3.size; simp at *; omega)
    have j0 := five_c0 hvb; have j1 := five_c1 hvb; have j2 := five_c2 hvb; have j3 := five_c3 hvb; have j4 := five_c4 hvb
    have hres := json_keep hk9 hR
    have i0 := five_c0 hres; have i1 := five_c1 hres; have i2 := five_c2 hres; have i3 := five_c3 hres; have i4 := five_c4 hres
    have z0 := five_fz hres 0; have z1 := five_fz hres 1; have z2 := five_fz hres 2; have z3 := five_fz hres 3; have z4 := five_fz hres 4
    go_wp2
    have h5 := set5_heap hres (.int .i64 kv) (.int .i64 iv) (.string tv) (.slice pk nk ck) (.slice pl nl cl)
    have HK5 : Keep (One w.heap.size) (w5.drewN nq) _ := set5_keep (w5.drewN nq) w.heap.size (.int .i64 kv) (.int .i64 iv) (.string tv) (.slice pk nk ck) (.slice pl nl cl)
    unfold set5 at h5 HK5
    have k0 := five_c0 h5; have k1 := five_c1 h5; have k2 := five_c2 h5; have k3 := five_c3 h5; have k4 := five_c4 h5
    refine bodyPost_ret (v := .tuple #[.agg #[.int .i64 kv, .int .i64 iv, .string tv, .slice pk nk ck, .slice pl nl cl], .bool true]) (by simp [results, Tryz.results80, go_sem, k0, k1, k2, k3, k4]) rfl ?_
    rw [HX.out]
    exact ⟨⟨_, _, _, _, _, _, _, _, _, rfl, val_j (new_grow hk2.size (by have := hk2.size; simp at this; omega) hj hk5) HK5⟩, val_ok hk9 hr5 HK5 hR⟩
def isF (s : ByteArray) (i : Nat) : Bool := decide (byteAt (ints s) i = 239 ∧ byteAt (ints s) (i + 1) = 191 ∧ byteAt (ints s) (i + 2) = 189)
theorem take_three {l : List UInt8} {n : Nat} (h : n + 3 ≤ l.length) : (l.drop n).take 3 = [l[n], l[n + 1], l[n + 2]] := by
 rw [List.drop_eq_getElem_cons (by omega), List.drop_eq_getElem_cons (i := n + 1) (by omega), List.drop_eq_getElem_cons (i := n + 2) (by omega)]
 rfl
theorem byte_eq (a : UInt8) (n : Nat) (hn : n < 256) : ((a.toNat : Int) = (n : Int)) ↔ a = UInt8.ofNat n := by
 constructor
 · intro h
   apply UInt8.toNat_inj.1
   have : a.toNat = n := by omega
   rw [this]
   simp
   omega
 · intro h
   subst h
   simp
   omega
theorem take_f (s : ByteArray) (i : Nat) : decide ((s.data.toList.drop i).take 3 = [239, 191, 189]) = isF s i := by
 unfold isF
 rw [decide_eq_decide]
 have hl : s.data.toList.length = s.size := by simp
 by_cases h : i + 3 ≤ s.size
 · rw [take_three (by omega), byte_in s i (by omega), byte_in s (i + 1) (by omega), byte_in s (i + 2) (by omega)]
   have e1 := byte_eq s[i] 239 (by omega)
   have e2 := byte_eq s[i + 1] 191 (by omega)
   have e3 := byte_eq s[i + 2] 189 (by omega)
   have g : ∀ k (hk : k < s.size), s.data.toList[k]'(by omega) = s[k] := fun k hk => by simp [ByteArray.getElem_eq_getElem_data]
   rw [g i (by omega), g (i + 1) (by omega), g (i + 2) (by omega)]
   simp only [List.cons.injEq, and_true]
   exact and_congr e1.symm (and_congr e2.symm e3.symm)
 · constructor
   · intro h'
     have := congrArg List.length h'
     simp at this
     omega
   · intro h'
     have := byte_past s (i + 2) (by omega)
     omega
theorem pre_list (s : ByteArray) (i : Nat) : (((s.extract i s.size).extract 0 3).toList == [239, 191, 189]) = isF s i := by
 rw [← take_f, Lib.toList_data, ByteArray.data_extract, Array.toList_extract, ByteArray.data_extract, Array.toList_extract]
 simp only [List.extract_eq_take_drop, List.drop_zero, Nat.sub_zero]
 have : (s.data.toList.drop i).take (s.size - i) = s.data.toList.drop i := List.take_of_length_le (by simp)
 rw [this, Bool.eq_iff_iff]
 simp only [beq_iff_eq, decide_eq_true_eq]
theorem lite_any (s : ByteArray) (i : Nat) (w : World) (hi : i ≤ s.size) (hs : s.size ≤ 1000000000) :
    Calls Tryz.prog 137 #[.string (s.extract i s.size), .string ⟨#[239, 191, 189]⟩] w fun e w' => e = .returned (.bool (isF s i)) ∧ w = w' := by
 have h1 := pre_list s i
 have hu : (s.extract i s.size).size = s.size - i := by simp
 by_cases h : i + 3 ≤ s.size
 · obtain ⟨u, hu'⟩ : ∃ u, s.extract i s.size = u := ⟨_, rfl⟩
   rw [hu'] at h1 hu ⊢
   have hu1 : 3 ≤ u.size := by omega
   have hu2 : u.size ≤ 1000000000 := by omega
   clear hu hu'
   cases hb : isF s i
   all_goals
    rw [hb] at h1
    go_enter Tryz.func137, Tryz.ntmps137
    go_wp2
    go_ret
    exact ⟨rfl, rfl⟩
 · have hF : isF s i = false := by
     unfold isF
     apply decide_eq_false
     intro h'
     have := byte_past s (i + 2) (by omega)
     omega
   rw [hF]
   obtain ⟨u, hu'⟩ : ∃ u, s.extract i s.size = u := ⟨_, rfl⟩
   rw [hu'] at h1 hu ⊢
   have hu1 : u.size < 3 := by omega
   clear hu hu' h1
   go_enter Tryz.func137, Tryz.ntmps137
   go_wp2
   go_ret
   exact ⟨rfl, rfl⟩
theorem prefix_any (s : ByteArray) (i : Nat) (w : World) (hi : i ≤ s.size) (hs : s.size ≤ 1000000000) :
    Calls Tryz.prog 113 #[.string (s.extract i s.size), .string ⟨#[239, 191, 189]⟩] w fun e w' => e = .returned (.bool (isF s i)) ∧ w = w' := by
 go_enter Tryz.func113, Tryz.ntmps113
 go_wp2_with (go_at_call 137; refine (lite_any s i _ hi hs).mono ?_; rintro x w' ⟨rfl, rfl⟩)
 go_ret
 exact ⟨rfl, rfl⟩
def strayTold (r : Option Nat) (x : Ending) : Prop := match r with
 | none => x = .returned (.tuple #[.int .i64 0, .bool false])
 | some p => x = .returned (.tuple #[.int .i64 p, .bool true])
theorem stray_any (s : ByteArray) (w : World) (hs : s.size ≤ 1000000000) :
    Calls Tryz.prog 79 #[.string s] w fun x w' => strayTold (stray (ints s)) x ∧ ∃ pos, w' = w.iter s pos := by
 go_enter Tryz.func79, Tryz.ntmps79
 go_wp2
 go_loopw [4] (fun _ wr => ∃ (pos m : Nat), wr = w.iter s pos ∧ strayL (ints s) m pos = stray (ints s) ∧ s.size ≤ pos + m) (fun _ wr => s.size - wr.iterPos w.heap.size)
 case atStart => exact ⟨0, s.size, rfl, by unfold stray; rw [ints_length], by omega⟩
 case round =>
  obtain ⟨pos, m, rfl, hc, hb⟩ := hrel
  have HC : Hid (strayL (ints s) m pos = stray (ints s)) := hc
  clear hc
  by_cases hp : pos < s.size
  · have hnx : ∀ ty, (Instr.next (.pointer (some ⟨w.heap.size, 0, none⟩)) true ty).run Tryz.prog (w.iter s pos) = _ := fun ty => run_next_any w s pos ty hp
    have hdec := decode_rune s pos
    obtain ⟨m, rfl⟩ : ∃ m', m = m' + 1 := ⟨m - 1, by omega⟩
    unfold strayL at HC
    rw [ints_length, if_pos hp] at HC
    by_cases h0 : (runeAt (ints s) pos).2 = 0
    · rw [if_pos h0] at HC hdec
      have hF : isF s pos = false := by
       unfold isF
       apply decide_eq_false
       rintro ⟨a, b, c⟩
       rw [rune_fffd _ _ a b c] at h0
       cases h0
      have pf := fun w' => prefix_any s pos w' (by omega) hs
      rw [hF] at pf
      rw [hdec] at hnx
      go_wp2_with (go_at_call 113; refine (pf _).mono ?_; rintro x w' ⟨rfl, rfl⟩)
      go_ret2
      rw [← HC.out]
      exact ⟨rfl, _, rfl⟩
    · rw [if_neg h0] at HC hdec
      have hw4 := rune_width (ints s) pos
      by_cases hr : (runeAt (ints s) pos).1 = 65533
      · have hF : isF s pos = true := decide_eq_true (rune_is (ints s) pos (byte_bd s) h0 hr)
        have pf := fun w' => prefix_any s pos w' (by omega) hs
        rw [hF] at pf
        rw [hr] at hdec
        rw [hdec] at hnx
        obtain ⟨wd, hwd⟩ : ∃ wd, (runeAt (ints s) pos).2 = wd := ⟨_, rfl⟩
        rw [hwd] at hnx HC h0 hw4
        clear hdec hwd
        go_wp2_with (go_at_call 113; refine (pf _).mono ?_; rintro x w' ⟨rfl, rfl⟩)
        go_roundw
        case rel => exact ⟨pos + wd, m, rfl, HC.out, by omega⟩
        case measure => simp; omega
      · obtain ⟨c, hcn⟩ : ∃ c, (runeAt (ints s) pos).1.toNat = c := ⟨_, rfl⟩
        have hc1 : (c : Int) ≠ 65533 := by omega
        rw [hcn] at hdec
        rw [hdec] at hnx
        obtain ⟨wd, hwd⟩ : ∃ wd, (runeAt (ints s) pos).2 = wd := ⟨_, rfl⟩
        rw [hwd] at hnx HC h0 hw4
        clear hdec hwd hcn
        go_wp2
        go_roundw
        case rel => exact ⟨pos + wd, m, rfl, HC.out, by omega⟩
        case measure => simp; omega
  · have hnx : ∀ ty, (Instr.next (.pointer (some ⟨w.heap.size, 0, none⟩)) true ty).run Tryz.prog (w.iter s pos) = _ := fun ty => run_next_end w s pos ty hp
    go_wp2
    go_ret2
    have hn : strayL (ints s) m pos = none := by
     cases m with
     | zero => rfl
     | succ m => unfold strayL; rw [ints_length, if_neg hp]
    rw [← HC.out, hn]
    exact ⟨rfl, _, rfl⟩
end Go.Proofs.YtegcgbjjpgjnmaaGreatDoor
