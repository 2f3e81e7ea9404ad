/-
  Which event makes a room: by a contract.
  Whether no two of a row are the same, by a set: a contract.
-/
import Derived.Test.YtldegjjaknelgaaGreatDoorAY17
set_option maxRecDepth 100000
set_option maxHeartbeats 16000000
namespace Go.Proofs.YtldegjjaknelgaaGreatDoor
open Go.RowKit
theorem creates_any {O : Nat → Prop} {w : World} {e : Ev} {p : Pt} (h : IsE O w e p) (hO : ∀ b, O b → b < w.heap.size) (hz : SzE e) :
    Calls Tryz.prog 51 #[valE e p] w fun x w' => x = .returned (.bool (createT e)) ∧ Below w.heap.size w w' := by
 obtain ⟨W, hW⟩ : ∃ W, W = w.alloc (.cells (cellsE e p).toArray 28) := ⟨_, rfl⟩
 have hb0 : Below w.heap.size w W := by rw [hW]; exact (Below.refl _ _).alloc (Nat.le_refl _) _
 have hX0 : W.heap[w.heap.size]? = some (.cells (cellsE e p).toArray 28 (0, 0)) := by rw [hW]; exact newP _
 have hV := isV_new h hO hb0 hX0
 have HX : Hid (∀ X, Below W.heap.size W X → IsV X w.heap.size e p) := fun X hX => hV.below hX
 have HTx : Hid (∀ X, Below W.heap.size W X → Calls Tryz.prog 31 #[.agg #[.int .i64 e.content.kind, .int .i64 e.content.int, .string e.content.text, .slice p.pk e.content.keys.length p.ck, .slice p.pl e.content.list.length p.cl], .string nCreator] X fun x w' => x = .returned (.string (textT e.content nCreator)) ∧ Below X.heap.size X w') := fun X hX => atext_any (O := (· < X.heap.size)) (j := e.content) (HX.out X hX).ev.cont (fun _ h => h) (szP_keys hz.cont) nCreator
 have HH1 : Hid (∀ X, Calls Tryz.prog 80 #[.string e.room] X fun x w' => x = .returned (.string (Id.home e.room)) ∧ Below X.heap.size X w') := fun X => Id.home_any e.room X (by have := hz.room; omega)
 have HH2 : Hid (∀ X, Calls Tryz.prog 80 #[.string e.sender] X fun x w' => x = .returned (.string (Id.home e.sender)) ∧ Below X.heap.size X w') := fun X => Id.home_any e.sender X (by have := hz.sender; omega)
 have HC : Hid (createT e = (e.st && ((e.key.toList == []) && (decide (e.prev.length = 0) && (decide (e.auth.length = 0) && (((Id.home e.room).toList == (Id.home e.sender).toList) && ((textT e.content nCreator).toList == e.sender.toList))))))) := by
  show _ = _
  unfold createT eqT
  rw [lit_nix]
 generalize textT e.content nCreator = m at HTx HC
 generalize Id.home e.room = r1 at HH1 HC
 generalize Id.home e.sender = r2 at HH2 HC
 have HBW : Hid (∀ X, Below W.heap.size W X → Below w.heap.size w X) := fun X hX => belowP hb0 hX
 clear h hV hX0
 unfold valE
 go_enter Tryz.func51, Tryz.ntmps51
 go_upto_region 1 with fail
 rw [← hW]
 clear hW
 refine wp_region_in (by kernel_rfl) (fun w' => Below W.heap.size W w') ?_
 change wpIn _ _ _ _ _ _ _ _ (World.drew _)
 have hD : Below W.heap.size W W.drew := (Below.refl _ _).drew
 cases hs : e.st with
 | false =>
  refine wpIn_tk (i := 0) (d := some 3) rfl ?_
  refine wpIn_tp (i := 1) (d := some 4) rfl (by (intro wq hq; have zf := (HX.out wq hq).isSt; go_simp; first | done | with_reducible rfl)) ?_
  refine wpIn_tk (i := 2) (d := some 5) rfl ?_
  refine wpIn_take (i := 3) (d := (some 6)) (v := undef) (a' := ?aqca3) rfl rfl (by kernel_rfl) (by kernel_rfl) (by kernel_rfl) (fun _ _ _ h => h) (Or.inr ⟨by rfl, rfl⟩) ?fqca3 ?_
  case fqca3 => (go_frame; rfl)
  refine wpIn_take (i := 4) (d := (some 7)) (v := undef) (a' := ?aqca4) rfl rfl (by kernel_rfl) (by kernel_rfl) (by kernel_rfl) (fun _ _ _ h => h) (Or.inr ⟨by rfl, rfl⟩) ?fqca4 ?_
  case fqca4 => (go_frame; rfl)
  refine wpIn_take (i := 5) (d := (some 8)) (v := undef) (a' := ?aqca5) rfl rfl (by kernel_rfl) (by kernel_rfl) (by kernel_rfl) (fun _ _ _ h => h) (Or.inr ⟨by rfl, rfl⟩) ?fqca5 ?_
  case fqca5 => (go_frame; rfl)
  refine wpIn_tk (i := 6) (d := some 9) rfl ?_
  refine wpIn_tk (i := 7) (d := some 10) rfl ?_
  refine wpIn_take (i := 8) (d := (some 11)) (v := undef) (a' := ?aqca8) rfl rfl (by kernel_rfl) (by kernel_rfl) (by kernel_rfl) (fun _ _ _ h => h) (Or.inr ⟨by rfl, rfl⟩) ?fqca8 ?_
  case fqca8 => (go_frame; rfl)
  refine wpIn_take (i := 9) (d := (some 12)) (v := undef) (a' := ?aqca9) rfl rfl (by kernel_rfl) (by kernel_rfl) (by kernel_rfl) (fun _ _ _ h => h) (Or.inr ⟨by rfl, rfl⟩) ?fqca9 ?_
  case fqca9 => (go_frame; rfl)
  refine wpIn_take (i := 10) (d := (some 13)) (v := undef) (a' := ?aqca10) rfl rfl (by kernel_rfl) (by kernel_rfl) (by kernel_rfl) (fun _ _ _ h => h) (Or.inr ⟨by rfl, rfl⟩) ?fqca10 ?_
  case fqca10 => (go_frame; rfl)
  refine wpIn_take (i := 11) (d := (some 14)) (v := undef) (a' := ?aqca11) rfl rfl (by kernel_rfl) (by kernel_rfl) (by kernel_rfl) (fun _ _ _ h => h) (Or.inr ⟨by rfl, rfl⟩) ?fqca11 ?_
  case fqca11 => (go_frame; rfl)
  refine wpIn_tk (i := 12) (d := some 15) rfl ?_
  refine wpIn_tk (i := 13) (d := some 16) rfl ?_
  refine wpIn_take (i := 14) (d := (some 17)) (v := undef) (a' := ?aqca14) rfl rfl (by kernel_rfl) (by kernel_rfl) (by kernel_rfl) (fun _ _ _ h => h) (Or.inr ⟨by rfl, rfl⟩) ?fqca14 ?_
  case fqca14 => (go_frame; rfl)
  refine wpIn_take (i := 15) (d := (some 18)) (v := undef) (a' := ?aqca15) rfl rfl (by kernel_rfl) (by kernel_rfl) (by kernel_rfl) (fun _ _ _ h => h) (Or.inr ⟨by rfl, rfl⟩) ?fqca15 ?_
  case fqca15 => (go_frame; rfl)
  refine wpIn_take (i := 16) (d := (some 19)) (v := undef) (a' := ?aqca16) rfl rfl (by kernel_rfl) (by kernel_rfl) (by kernel_rfl) (fun _ _ _ h => h) (Or.inr ⟨by rfl, rfl⟩) ?fqca16 ?_
  case fqca16 => (go_frame; rfl)
  refine wpIn_take (i := 17) (d := (some 20)) (v := undef) (a' := ?aqca17) rfl rfl (by kernel_rfl) (by kernel_rfl) (by kernel_rfl) (fun _ _ _ h => h) (Or.inr ⟨by rfl, rfl⟩) ?fqca17 ?_
  case fqca17 => (go_frame; rfl)
  refine wpIn_tk (i := 18) (d := some 21) rfl ?_
  refine wpIn_tk (i := 19) (d := some 22) rfl ?_
  refine wpIn_take (i := 20) (d := (some 23)) (v := undef) (a' := ?aqca20) rfl rfl (by kernel_rfl) (by kernel_rfl) (by kernel_rfl) (fun _ _ _ h => h) (Or.inr ⟨by rfl, rfl⟩) ?fqca20 ?_
  case fqca20 => (go_frame; rfl)
  refine wpIn_take (i := 21) (d := (some 24)) (v := undef) (a' := ?aqca21) rfl rfl (by kernel_rfl) (by kernel_rfl) (by kernel_rfl) (fun _ _ _ h => h) (Or.inr ⟨by rfl, rfl⟩) ?fqca21 ?_
  case fqca21 => (go_frame; rfl)
  refine wpIn_take (i := 22) (d := (some 25)) (v := undef) (a' := ?aqca22) rfl rfl (by kernel_rfl) (by kernel_rfl) (by kernel_rfl) (fun _ _ _ h => h) (Or.inr ⟨by rfl, rfl⟩) ?fqca22 ?_
  case fqca22 => (go_frame; rfl)
  refine wpIn_take (i := 23) (d := (some 26)) (v := undef) (a' := ?aqca23) rfl rfl (by kernel_rfl) (by kernel_rfl) (by kernel_rfl) (fun _ _ _ h => h) (Or.inr ⟨by rfl, rfl⟩) ?fqca23 ?_
  case fqca23 => (go_frame; rfl)
  refine wpIn_take (i := 24) (d := (some 27)) (v := undef) (a' := ?aqca24) rfl rfl (by kernel_rfl) (by kernel_rfl) (by kernel_rfl) (fun _ _ _ h => h) (Or.inr ⟨by rfl, rfl⟩) ?fqca24 ?_
  case fqca24 => (go_frame; rfl)
  refine wpIn_take (i := 25) (d := (some 28)) (v := undef) (a' := ?aqca25) rfl rfl (by kernel_rfl) (by kernel_rfl) (by kernel_rfl) (fun _ _ _ h => h) (Or.inr ⟨by rfl, rfl⟩) ?fqca25 ?_
  case fqca25 => (go_frame; rfl)
  refine wpIn_take (i := 26) (d := (some 29)) (v := undef) (a' := ?aqca26) rfl rfl (by kernel_rfl) (by kernel_rfl) (by kernel_rfl) (fun _ _ _ h => h) (Or.inr ⟨by rfl, rfl⟩) ?fqca26 ?_
  case fqca26 => (go_frame; rfl)
  refine wpIn_tk (i := 27) (d := some 30) rfl ?_
  refine wpIn_tk (i := 28) (d := some 31) rfl ?_
  refine wpIn_take (i := 29) (d := (some 32)) (v := undef) (a' := ?aqca29) rfl rfl (by kernel_rfl) (by kernel_rfl) (by kernel_rfl) (fun _ _ _ h => h) (Or.inr ⟨by rfl, rfl⟩) ?fqca29 ?_
  case fqca29 => (go_frame; rfl)
  refine wpIn_take (i := 30) (d := (some 33)) (v := undef) (a' := ?aqca30) rfl rfl (by kernel_rfl) (by kernel_rfl) (by kernel_rfl) (fun _ _ _ h => h) (Or.inr ⟨by rfl, rfl⟩) ?fqca30 ?_
  case fqca30 => (go_frame; rfl)
  refine wpIn_take (i := 31) (d := (some 34)) (v := undef) (a' := ?aqca31) rfl rfl (by kernel_rfl) (by kernel_rfl) (by kernel_rfl) (fun _ _ _ h => h) (Or.inr ⟨by rfl, rfl⟩) ?fqca31 ?_
  case fqca31 => (go_frame; rfl)
  refine wpIn_take (i := 32) (d := (some 35)) (v := undef) (a' := ?aqca32) rfl rfl (by kernel_rfl) (by kernel_rfl) (by kernel_rfl) (fun _ _ _ h => h) (Or.inr ⟨by rfl, rfl⟩) ?fqca32 ?_
  case fqca32 => (go_frame; rfl)
  refine wpIn_take (i := 33) (d := (some 36)) (v := undef) (a' := ?aqca33) rfl rfl (by kernel_rfl) (by kernel_rfl) (by kernel_rfl) (fun _ _ _ h => h) (Or.inr ⟨by rfl, rfl⟩) ?fqca33 ?_
  case fqca33 => (go_frame; rfl)
  refine wpIn_take (i := 34) (d := (some 37)) (v := undef) (a' := ?aqca34) rfl rfl (by kernel_rfl) (by kernel_rfl) (by kernel_rfl) (fun _ _ _ h => h) (Or.inr ⟨by rfl, rfl⟩) ?fqca34 ?_
  case fqca34 => (go_frame; rfl)
  refine wpIn_tk (i := 35) (d := some 38) rfl ?_
  refine wpIn_tk (i := 36) (d := some 2) rfl ?_
  refine wpIn_done hD (by kernel_rfl) ?_ _
  go_wp2
  go_ret
  exact ⟨by rw [HC.out, hs]; rfl, HBW.out _ hD⟩
 | true =>
  cases hk : (e.key.toList == []) with
  | false =>
   have hk2 : e.key.toList.isEmpty = false := by cases hq : e.key.toList with | nil => rw [hq] at hk; simp at hk | cons a b => rfl
   refine wpIn_tk (i := 0) (d := some 3) rfl ?_
   refine wpIn_tp (i := 1) (d := some 4) rfl (by (intro wq hq; have zf := (HX.out wq hq).isSt; go_simp; first | done | with_reducible rfl)) ?_
   refine wpIn_tk (i := 2) (d := some 5) rfl ?_
   refine wpIn_tk (i := 3) (d := some 6) rfl ?_
   refine wpIn_tp (i := 4) (d := some 7) rfl (by (intro wq hq; have zf := (HX.out wq hq).key; go_simp; first | done | with_reducible rfl)) ?_
   refine wpIn_tk (i := 5) (d := some 8) rfl ?_
   refine wpIn_tk (i := 6) (d := some 9) rfl ?_
   refine wpIn_tk (i := 7) (d := some 10) rfl ?_
   refine wpIn_take (i := 8) (d := (some 11)) (v := undef) (a' := ?aqcb8) rfl rfl (by kernel_rfl) (by kernel_rfl) (by kernel_rfl) (fun _ _ _ h => h) (Or.inr ⟨by rfl, rfl⟩) ?fqcb8 ?_
   case fqcb8 => (go_frame; rfl)
   refine wpIn_take (i := 9) (d := (some 12)) (v := undef) (a' := ?aqcb9) rfl rfl (by kernel_rfl) (by kernel_rfl) (by kernel_rfl) (fun _ _ _ h => h) (Or.inr ⟨by rfl, rfl⟩) ?fqcb9 ?_
   case fqcb9 => (go_frame; rfl)
   refine wpIn_take (i := 10) (d := (some 13)) (v := undef) (a' := ?aqcb10) rfl rfl (by kernel_rfl) (by kernel_rfl) (by kernel_rfl) (fun _ _ _ h => h) (Or.inr ⟨by rfl, rfl⟩) ?fqcb10 ?_
   case fqcb10 => (go_frame; rfl)
   refine wpIn_take (i := 11) (d := (some 14)) (v := undef) (a' := ?aqcb11) rfl rfl (by kernel_rfl) (by kernel_rfl) (by kernel_rfl) (fun _ _ _ h => h) (Or.inr ⟨by rfl, rfl⟩) ?fqcb11 ?_
   case fqcb11 => (go_frame; rfl)
   refine wpIn_tk (i := 12) (d := some 15) rfl ?_
   refine wpIn_tk (i := 13) (d := some 16) rfl ?_
   refine wpIn_take (i := 14) (d := (some 17)) (v := undef) (a' := ?aqcb14) rfl rfl (by kernel_rfl) (by kernel_rfl) (by kernel_rfl) (fun _ _ _ h => h) (Or.inr ⟨by rfl, rfl⟩) ?fqcb14 ?_
   case fqcb14 => (go_frame; rfl)
   refine wpIn_take (i := 15) (d := (some 18)) (v := undef) (a' := ?aqcb15) rfl rfl (by kernel_rfl) (by kernel_rfl) (by kernel_rfl) (fun _ _ _ h => h) (Or.inr ⟨by rfl, rfl⟩) ?fqcb15 ?_
   case fqcb15 => (go_frame; rfl)
   refine wpIn_take (i := 16) (d := (some 19)) (v := undef) (a' := ?aqcb16) rfl rfl (by kernel_rfl) (by kernel_rfl) (by kernel_rfl) (fun _ _ _ h => h) (Or.inr ⟨by rfl, rfl⟩) ?fqcb16 ?_
   case fqcb16 => (go_frame; rfl)
   refine wpIn_take (i := 17) (d := (some 20)) (v := undef) (a' := ?aqcb17) rfl rfl (by kernel_rfl) (by kernel_rfl) (by kernel_rfl) (fun _ _ _ h => h) (Or.inr ⟨by rfl, rfl⟩) ?fqcb17 ?_
   case fqcb17 => (go_frame; rfl)
   refine wpIn_tk (i := 18) (d := some 21) rfl ?_
   refine wpIn_tk (i := 19) (d := some 22) rfl ?_
   refine wpIn_take (i := 20) (d := (some 23)) (v := undef) (a' := ?aqcb20) rfl rfl (by kernel_rfl) (by kernel_rfl) (by kernel_rfl) (fun _ _ _ h => h) (Or.inr ⟨by rfl, rfl⟩) ?fqcb20 ?_
   case fqcb20 => (go_frame; rfl)
   refine wpIn_take (i := 21) (d := (some 24)) (v := undef) (a' := ?aqcb21) rfl rfl (by kernel_rfl) (by kernel_rfl) (by kernel_rfl) (fun _ _ _ h => h) (Or.inr ⟨by rfl, rfl⟩) ?fqcb21 ?_
   case fqcb21 => (go_frame; rfl)
   refine wpIn_take (i := 22) (d := (some 25)) (v := undef) (a' := ?aqcb22) rfl rfl (by kernel_rfl) (by kernel_rfl) (by kernel_rfl) (fun _ _ _ h => h) (Or.inr ⟨by rfl, rfl⟩) ?fqcb22 ?_
   case fqcb22 => (go_frame; rfl)
   refine wpIn_take (i := 23) (d := (some 26)) (v := undef) (a' := ?aqcb23) rfl rfl (by kernel_rfl) (by kernel_rfl) (by kernel_rfl) (fun _ _ _ h => h) (Or.inr ⟨by rfl, rfl⟩) ?fqcb23 ?_
   case fqcb23 => (go_frame; rfl)
   refine wpIn_take (i := 24) (d := (some 27)) (v := undef) (a' := ?aqcb24) rfl rfl (by kernel_rfl) (by kernel_rfl) (by kernel_rfl) (fun _ _ _ h => h) (Or.inr ⟨by rfl, rfl⟩) ?fqcb24 ?_
   case fqcb24 => (go_frame; rfl)
   refine wpIn_take (i := 25) (d := (some 28)) (v := undef) (a' := ?aqcb25) rfl rfl (by kernel_rfl) (by kernel_rfl) (by kernel_rfl) (fun _ _ _ h => h) (Or.inr ⟨by rfl, rfl⟩) ?fqcb25 ?_
   case fqcb25 => (go_frame; rfl)
   refine wpIn_take (i := 26) (d := (some 29)) (v := undef) (a' := ?aqcb26) rfl rfl (by kernel_rfl) (by kernel_rfl) (by kernel_rfl) (fun _ _ _ h => h) (Or.inr ⟨by rfl, rfl⟩) ?fqcb26 ?_
   case fqcb26 => (go_frame; rfl)
   refine wpIn_tk (i := 27) (d := some 30) rfl ?_
   refine wpIn_tk (i := 28) (d := some 31) rfl ?_
   refine wpIn_take (i := 29) (d := (some 32)) (v := undef) (a' := ?aqcb29) rfl rfl (by kernel_rfl) (by kernel_rfl) (by kernel_rfl) (fun _ _ _ h => h) (Or.inr ⟨by rfl, rfl⟩) ?fqcb29 ?_
   case fqcb29 => (go_frame; rfl)
   refine wpIn_take (i := 30) (d := (some 33)) (v := undef) (a' := ?aqcb30) rfl rfl (by kernel_rfl) (by kernel_rfl) (by kernel_rfl) (fun _ _ _ h => h) (Or.inr ⟨by rfl, rfl⟩) ?fqcb30 ?_
   case fqcb30 => (go_frame; rfl)
   refine wpIn_take (i := 31) (d := (some 34)) (v := undef) (a' := ?aqcb31) rfl rfl (by kernel_rfl) (by kernel_rfl) (by kernel_rfl) (fun _ _ _ h => h) (Or.inr ⟨by rfl, rfl⟩) ?fqcb31 ?_
   case fqcb31 => (go_frame; rfl)
   refine wpIn_take (i := 32) (d := (some 35)) (v := undef) (a' := ?aqcb32) rfl rfl (by kernel_rfl) (by kernel_rfl) (by kernel_rfl) (fun _ _ _ h => h) (Or.inr ⟨by rfl, rfl⟩) ?fqcb32 ?_
   case fqcb32 => (go_frame; rfl)
   refine wpIn_take (i := 33) (d := (some 36)) (v := undef) (a' := ?aqcb33) rfl rfl (by kernel_rfl) (by kernel_rfl) (by kernel_rfl) (fun _ _ _ h => h) (Or.inr ⟨by rfl, rfl⟩) ?fqcb33 ?_
   case fqcb33 => (go_frame; rfl)
   refine wpIn_take (i := 34) (d := (some 37)) (v := undef) (a' := ?aqcb34) rfl rfl (by kernel_rfl) (by kernel_rfl) (by kernel_rfl) (fun _ _ _ h => h) (Or.inr ⟨by rfl, rfl⟩) ?fqcb34 ?_
   case fqcb34 => (go_frame; rfl)
   refine wpIn_tk (i := 35) (d := some 38) rfl ?_
   refine wpIn_tk (i := 36) (d := some 2) rfl ?_
   refine wpIn_done hD (by kernel_rfl) ?_ _
   go_wp2
   go_ret
   exact ⟨by rw [HC.out, hs, hk]; rfl, HBW.out _ hD⟩
  | true =>
   have hk2 : e.key.toList.isEmpty = true := by simpa using hk
   cases hp : decide (e.prev.length = 0) with
   | false =>
    have hp2 : ((e.prev.length : Int) == 0) = false := by simpa using hp
    have hp3 : (e.prev.length == 0) = false := by simpa using hp
    refine wpIn_tk (i := 0) (d := some 3) rfl ?_
    refine wpIn_tp (i := 1) (d := some 4) rfl (by (intro wq hq; have zf := (HX.out wq hq).isSt; go_simp; first | done | with_reducible rfl)) ?_
    refine wpIn_tk (i := 2) (d := some 5) rfl ?_
    refine wpIn_tk (i := 3) (d := some 6) rfl ?_
    refine wpIn_tp (i := 4) (d := some 7) rfl (by (intro wq hq; have zf := (HX.out wq hq).key; go_simp; first | done | with_reducible rfl)) ?_
    refine wpIn_tk (i := 5) (d := some 8) rfl ?_
    refine wpIn_tk (i := 6) (d := some 9) rfl ?_
    refine wpIn_tk (i := 7) (d := some 10) rfl ?_
    refine wpIn_tk (i := 8) (d := some 11) rfl ?_
    refine wpIn_tp (i := 9) (d := some 12) rfl (by (intro wq hq; have zf := (HX.out wq hq).prev; go_simp; first | done | with_reducible rfl)) ?_
    refine wpIn_tk (i := 10) (d := some 13) rfl ?_
    refine wpIn_tk (i := 11) (d := some 14) rfl ?_
    refine wpIn_tk (i := 12) (d := some 15) rfl ?_
    refine wpIn_tk (i := 13) (d := some 16) rfl ?_
    refine wpIn_take (i := 14) (d := (some 17)) (v := undef) (a' := ?aqcc14) rfl rfl (by kernel_rfl) (by kernel_rfl) (by kernel_rfl) (fun _ _ _ h => h) (Or.inr ⟨by rfl, rfl⟩) ?fqcc14 ?_
    case fqcc14 => (go_frame; rfl)
    refine wpIn_take (i := 15) (d := (some 18)) (v := undef) (a' := ?aqcc15) rfl rfl (by kernel_rfl) (by kernel_rfl) (by kernel_rfl) (fun _ _ _ h => h) (Or.inr ⟨by rfl, rfl⟩) ?fqcc15 ?_
    case fqcc15 => (go_frame; rfl)
    refine wpIn_take (i := 16) (d := (some 19)) (v := undef) (a' := ?aqcc16) rfl rfl (by kernel_rfl) (by kernel_rfl) (by kernel_rfl) (fun _ _ _ h => h) (Or.inr ⟨by rfl, rfl⟩) ?fqcc16 ?_
    case fqcc16 => (go_frame; rfl)
    refine wpIn_take (i := 17) (d := (some 20)) (v := undef) (a' := ?aqcc17) rfl rfl (by kernel_rfl) (by kernel_rfl) (by kernel_rfl) (fun _ _ _ h => h) (Or.inr ⟨by rfl, rfl⟩) ?fqcc17 ?_
    case fqcc17 => (go_frame; rfl)
    refine wpIn_tk (i := 18) (d := some 21) rfl ?_
    refine wpIn_tk (i := 19) (d := some 22) rfl ?_
    refine wpIn_take (i := 20) (d := (some 23)) (v := undef) (a' := ?aqcc20) rfl rfl (by kernel_rfl) (by kernel_rfl) (by kernel_rfl) (fun _ _ _ h => h) (Or.inr ⟨by rfl, rfl⟩) ?fqcc20 ?_
    case fqcc20 => (go_frame; rfl)
    refine wpIn_take (i := 21) (d := (some 24)) (v := undef) (a' := ?aqcc21) rfl rfl (by kernel_rfl) (by kernel_rfl) (by kernel_rfl) (fun _ _ _ h => h) (Or.inr ⟨by rfl, rfl⟩) ?fqcc21 ?_
    case fqcc21 => (go_frame; rfl)
    refine wpIn_take (i := 22) (d := (some 25)) (v := undef) (a' := ?aqcc22) rfl rfl (by kernel_rfl) (by kernel_rfl) (by kernel_rfl) (fun _ _ _ h => h) (Or.inr ⟨by rfl, rfl⟩) ?fqcc22 ?_
    case fqcc22 => (go_frame; rfl)
    refine wpIn_take (i := 23) (d := (some 26)) (v := undef) (a' := ?aqcc23) rfl rfl (by kernel_rfl) (by kernel_rfl) (by kernel_rfl) (fun _ _ _ h => h) (Or.inr ⟨by rfl, rfl⟩) ?fqcc23 ?_
    case fqcc23 => (go_frame; rfl)
    refine wpIn_take (i := 24) (d := (some 27)) (v := undef) (a' := ?aqcc24) rfl rfl (by kernel_rfl) (by kernel_rfl) (by kernel_rfl) (fun _ _ _ h => h) (Or.inr ⟨by rfl, rfl⟩) ?fqcc24 ?_
    case fqcc24 => (go_frame; rfl)
    refine wpIn_take (i := 25) (d := (some 28)) (v := undef) (a' := ?aqcc25) rfl rfl (by kernel_rfl) (by kernel_rfl) (by kernel_rfl) (fun _ _ _ h => h) (Or.inr ⟨by rfl, rfl⟩) ?fqcc25 ?_
    case fqcc25 => (go_frame; rfl)
    refine wpIn_take (i := 26) (d := (some 29)) (v := undef) (a' := ?aqcc26) rfl rfl (by kernel_rfl) (by kernel_rfl) (by kernel_rfl) (fun _ _ _ h => h) (Or.inr ⟨by rfl, rfl⟩) ?fqcc26 ?_
    case fqcc26 => (go_frame; rfl)
    refine wpIn_tk (i := 27) (d := some 30) rfl ?_
    refine wpIn_tk (i := 28) (d := some 31) rfl ?_
    refine wpIn_take (i := 29) (d := (some 32)) (v := undef) (a' := ?aqcc29) rfl rfl (by kernel_rfl) (by kernel_rfl) (by kernel_rfl) (fun _ _ _ h => h) (Or.inr ⟨by rfl, rfl⟩) ?fqcc29 ?_
    case fqcc29 => (go_frame; rfl)
    refine wpIn_take (i := 30) (d := (some 33)) (v := undef) (a' := ?aqcc30) rfl rfl (by kernel_rfl) (by kernel_rfl) (by kernel_rfl) (fun _ _ _ h => h) (Or.inr ⟨by rfl, rfl⟩) ?fqcc30 ?_
    case fqcc30 => (go_frame; rfl)
    refine wpIn_take (i := 31) (d := (some 34)) (v := undef) (a' := ?aqcc31) rfl rfl (by kernel_rfl) (by kernel_rfl) (by kernel_rfl) (fun _ _ _ h => h) (Or.inr ⟨by rfl, rfl⟩) ?fqcc31 ?_
    case fqcc31 => (go_frame; rfl)
    refine wpIn_take (i := 32) (d := (some 35)) (v := undef) (a' := ?aqcc32) rfl rfl (by kernel_rfl) (by kernel_rfl) (by kernel_rfl) (fun _ _ _ h => h) (Or.inr ⟨by rfl, rfl⟩) ?fqcc32 ?_
    case fqcc32 => (go_frame; rfl)
    refine wpIn_take (i := 33) (d := (some 36)) (v := undef) (a' := ?aqcc33) rfl rfl (by kernel_rfl) (by kernel_rfl) (by kernel_rfl) (fun _ _ _ h => h) (Or.inr ⟨by rfl, rfl⟩) ?fqcc33 ?_
    case fqcc33 => (go_frame; rfl)
    refine wpIn_take (i := 34) (d := (some 37)) (v := undef) (a' := ?aqcc34) rfl rfl (by kernel_rfl) (by kernel_rfl) (by kernel_rfl) (fun _ _ _ h => h) (Or.inr ⟨by rfl, rfl⟩) ?fqcc34 ?_
    case fqcc34 => (go_frame; rfl)
    refine wpIn_tk (i := 35) (d := some 38) rfl ?_
    refine wpIn_tk (i := 36) (d := some 2) rfl ?_
    refine wpIn_done hD (by kernel_rfl) ?_ _
    go_wp2
    go_ret
    exact ⟨by rw [HC.out, hs, hk, hp]; rfl, HBW.out _ hD⟩
   | true =>
    have hp2 : ((e.prev.length : Int) == 0) = true := by simpa using hp
    have hp3 : (e.prev.length == 0) = true := by simpa using hp
    cases ha : decide (e.auth.length = 0) with
    | false =>
     have ha2 : ((e.auth.length : Int) == 0) = false := by simpa using ha
     have ha3 : (e.auth.length == 0) = false := by simpa using ha
     refine wpIn_tk (i := 0) (d := some 3) rfl ?_
     refine wpIn_tp (i := 1) (d := some 4) rfl (by (intro wq hq; have zf := (HX.out wq hq).isSt; go_simp; first | done | with_reducible rfl)) ?_
     refine wpIn_tk (i := 2) (d := some 5) rfl ?_
     refine wpIn_tk (i := 3) (d := some 6) rfl ?_
     refine wpIn_tp (i := 4) (d := some 7) rfl (by (intro wq hq; have zf := (HX.out wq hq).key; go_simp; first | done | with_reducible rfl)) ?_
     refine wpIn_tk (i := 5) (d := some 8) rfl ?_
     refine wpIn_tk (i := 6) (d := some 9) rfl ?_
     refine wpIn_tk (i := 7) (d := some 10) rfl ?_
     refine wpIn_tk (i := 8) (d := some 11) rfl ?_
     refine wpIn_tp (i := 9) (d := some 12) rfl (by (intro wq hq; have zf := (HX.out wq hq).prev; go_simp; first | done | with_reducible rfl)) ?_
     refine wpIn_tk (i := 10) (d := some 13) rfl ?_
     refine wpIn_tk (i := 11) (d := some 14) rfl ?_
     refine wpIn_tk (i := 12) (d := some 15) rfl ?_
     refine wpIn_tk (i := 13) (d := some 16) rfl ?_
     refine wpIn_tk (i := 14) (d := some 17) rfl ?_
     refine wpIn_tp (i := 15) (d := some 18) rfl (by (intro wq hq; have zf := (HX.out wq hq).authS; go_simp; first | done | with_reducible rfl)) ?_
     refine wpIn_tk (i := 16) (d := some 19) rfl ?_
     refine wpIn_tk (i := 17) (d := some 20) rfl ?_
     refine wpIn_tk (i := 18) (d := some 21) rfl ?_
     refine wpIn_tk (i := 19) (d := some 22) rfl ?_
     refine wpIn_take (i := 20) (d := (some 23)) (v := undef) (a' := ?aqcd20) rfl rfl (by kernel_rfl) (by kernel_rfl) (by kernel_rfl) (fun _ _ _ h => h) (Or.inr ⟨by rfl, rfl⟩) ?fqcd20 ?_
     case fqcd20 => (go_frame; rfl)
     refine wpIn_take (i := 21) (d := (some 24)) (v := undef) (a' := ?aqcd21) rfl rfl (by kernel_rfl) (by kernel_rfl) (by kernel_rfl) (fun _ _ _ h => h) (Or.inr ⟨by rfl, rfl⟩) ?fqcd21 ?_
     case fqcd21 => (go_frame; rfl)
     refine wpIn_take (i := 22) (d := (some 25)) (v := undef) (a' := ?aqcd22) rfl rfl (by kernel_rfl) (by kernel_rfl) (by kernel_rfl) (fun _ _ _ h => h) (Or.inr ⟨by rfl, rfl⟩) ?fqcd22 ?_
     case fqcd22 => (go_frame; rfl)
     refine wpIn_take (i := 23) (d := (some 26)) (v := undef) (a' := ?aqcd23) rfl rfl (by kernel_rfl) (by kernel_rfl) (by kernel_rfl) (fun _ _ _ h => h) (Or.inr ⟨by rfl, rfl⟩) ?fqcd23 ?_
     case fqcd23 => (go_frame; rfl)
     refine wpIn_take (i := 24) (d := (some 27)) (v := undef) (a' := ?aqcd24) rfl rfl (by kernel_rfl) (by kernel_rfl) (by kernel_rfl) (fun _ _ _ h => h) (Or.inr ⟨by rfl, rfl⟩) ?fqcd24 ?_
     case fqcd24 => (go_frame; rfl)
     refine wpIn_take (i := 25) (d := (some 28)) (v := undef) (a' := ?aqcd25) rfl rfl (by kernel_rfl) (by kernel_rfl) (by kernel_rfl) (fun _ _ _ h => h) (Or.inr ⟨by rfl, rfl⟩) ?fqcd25 ?_
     case fqcd25 => (go_frame; rfl)
     refine wpIn_take (i := 26) (d := (some 29)) (v := undef) (a' := ?aqcd26) rfl rfl (by kernel_rfl) (by kernel_rfl) (by kernel_rfl) (fun _ _ _ h => h) (Or.inr ⟨by rfl, rfl⟩) ?fqcd26 ?_
     case fqcd26 => (go_frame; rfl)
     refine wpIn_tk (i := 27) (d := some 30) rfl ?_
     refine wpIn_tk (i := 28) (d := some 31) rfl ?_
     refine wpIn_take (i := 29) (d := (some 32)) (v := undef) (a' := ?aqcd29) rfl rfl (by kernel_rfl) (by kernel_rfl) (by kernel_rfl) (fun _ _ _ h => h) (Or.inr ⟨by rfl, rfl⟩) ?fqcd29 ?_
     case fqcd29 => (go_frame; rfl)
     refine wpIn_take (i := 30) (d := (some 33)) (v := undef) (a' := ?aqcd30) rfl rfl (by kernel_rfl) (by kernel_rfl) (by kernel_rfl) (fun _ _ _ h => h) (Or.inr ⟨by rfl, rfl⟩) ?fqcd30 ?_
     case fqcd30 => (go_frame; rfl)
     refine wpIn_take (i := 31) (d := (some 34)) (v := undef) (a' := ?aqcd31) rfl rfl (by kernel_rfl) (by kernel_rfl) (by kernel_rfl) (fun _ _ _ h => h) (Or.inr ⟨by rfl, rfl⟩) ?fqcd31 ?_
     case fqcd31 => (go_frame; rfl)
     refine wpIn_take (i := 32) (d := (some 35)) (v := undef) (a' := ?aqcd32) rfl rfl (by kernel_rfl) (by kernel_rfl) (by kernel_rfl) (fun _ _ _ h => h) (Or.inr ⟨by rfl, rfl⟩) ?fqcd32 ?_
     case fqcd32 => (go_frame; rfl)
     refine wpIn_take (i := 33) (d := (some 36)) (v := undef) (a' := ?aqcd33) rfl rfl (by kernel_rfl) (by kernel_rfl) (by kernel_rfl) (fun _ _ _ h => h) (Or.inr ⟨by rfl, rfl⟩) ?fqcd33 ?_
     case fqcd33 => (go_frame; rfl)
     refine wpIn_take (i := 34) (d := (some 37)) (v := undef) (a' := ?aqcd34) rfl rfl (by kernel_rfl) (by kernel_rfl) (by kernel_rfl) (fun _ _ _ h => h) (Or.inr ⟨by rfl, rfl⟩) ?fqcd34 ?_
     case fqcd34 => (go_frame; rfl)
     refine wpIn_tk (i := 35) (d := some 38) rfl ?_
     refine wpIn_tk (i := 36) (d := some 2) rfl ?_
     refine wpIn_done hD (by kernel_rfl) ?_ _
     go_wp2
     go_ret
     exact ⟨by rw [HC.out, hs, hk, hp, ha]; rfl, HBW.out _ hD⟩
    | true =>
     have ha2 : ((e.auth.length : Int) == 0) = true := by simpa using ha
     have ha3 : (e.auth.length == 0) = true := by simpa using ha
     cases hh : (r1.toList == r2.toList) with
     | false =>
      refine wpIn_tk (i := 0) (d := some 3) rfl ?_
      refine wpIn_tp (i := 1) (d := some 4) rfl (by (intro wq hq; have zf := (HX.out wq hq).isSt; go_simp; first | done | with_reducible rfl)) ?_
      refine wpIn_tk (i := 2) (d := some 5) rfl ?_
      refine wpIn_tk (i := 3) (d := some 6) rfl ?_
      refine wpIn_tp (i := 4) (d := some 7) rfl (by (intro wq hq; have zf := (HX.out wq hq).key; go_simp; first | done | with_reducible rfl)) ?_
      refine wpIn_tk (i := 5) (d := some 8) rfl ?_
      refine wpIn_tk (i := 6) (d := some 9) rfl ?_
      refine wpIn_tk (i := 7) (d := some 10) rfl ?_
      refine wpIn_tk (i := 8) (d := some 11) rfl ?_
      refine wpIn_tp (i := 9) (d := some 12) rfl (by (intro wq hq; have zf := (HX.out wq hq).prev; go_simp; first | done | with_reducible rfl)) ?_
      refine wpIn_tk (i := 10) (d := some 13) rfl ?_
      refine wpIn_tk (i := 11) (d := some 14) rfl ?_
      refine wpIn_tk (i := 12) (d := some 15) rfl ?_
      refine wpIn_tk (i := 13) (d := some 16) rfl ?_
      refine wpIn_tk (i := 14) (d := some 17) rfl ?_
      refine wpIn_tp (i := 15) (d := some 18) rfl (by (intro wq hq; have zf := (HX.out wq hq).authS; go_simp; first | done | with_reducible rfl)) ?_
      refine wpIn_tk (i := 16) (d := some 19) rfl ?_
      refine wpIn_tk (i := 17) (d := some 20) rfl ?_
      refine wpIn_tk (i := 18) (d := some 21) rfl ?_
      refine wpIn_tk (i := 19) (d := some 22) rfl ?_
      refine wpIn_tk (i := 20) (d := some 23) rfl ?_
      refine wpIn_tp (i := 21) (d := some 24) rfl (by (intro wq hq; have zf := (HX.out wq hq).room; go_simp; first | done | with_reducible rfl)) ?_
      refine wpIn_tk (i := 23) (d := some 26) rfl ?_
      refine wpIn_tp (i := 24) (d := some 27) rfl (by (intro wq hq; have zf := (HX.out wq hq).sender; go_simp; first | done | with_reducible rfl)) ?_
      refine wpIn_do (i := 22) hD (by kernel_rfl) rfl (by rfl) ?_
      intro K hK
      go_simp
      go_wp2_with (go_at_call 80; refine (HH1.out _).mono ?_; rintro e w1 ⟨rfl, hbw1⟩)
      have hD22 : Below W.heap.size W w1 := belowP hD hbw1
      refine wpIn_do (i := 25) hD22 (by kernel_rfl) rfl (by rfl) ?_
      intro K hK
      go_simp
      go_wp2_with (go_at_call 80; refine (HH2.out _).mono ?_; rintro e w2 ⟨rfl, hbw2⟩)
      have hD2225 : Below W.heap.size W w2 := belowP hD22 hbw2
      refine wpIn_tk (i := 26) (d := some 29) rfl ?_
      refine wpIn_tk (i := 27) (d := some 30) rfl ?_
      refine wpIn_tk (i := 28) (d := some 31) rfl ?_
      refine wpIn_take (i := 29) (d := (some 32)) (v := undef) (a' := ?aqce29) rfl rfl (by kernel_rfl) (by kernel_rfl) (by kernel_rfl) (fun _ _ _ h => h) (Or.inr ⟨by rfl, rfl⟩) ?fqce29 ?_
      case fqce29 => (go_frame; rfl)
      refine wpIn_take (i := 30) (d := (some 33)) (v := undef) (a' := ?aqce30) rfl rfl (by kernel_rfl) (by kernel_rfl) (by kernel_rfl) (fun _ _ _ h => h) (Or.inr ⟨by rfl, rfl⟩) ?fqce30 ?_
      case fqce30 => (go_frame; rfl)
      refine wpIn_take (i := 31) (d := (some 34)) (v := undef) (a' := ?aqce31) rfl rfl (by kernel_rfl) (by kernel_rfl) (by kernel_rfl) (fun _ _ _ h => h) (Or.inr ⟨by rfl, rfl⟩) ?fqce31 ?_
      case fqce31 => (go_frame; rfl)
      refine wpIn_take (i := 32) (d := (some 35)) (v := undef) (a' := ?aqce32) rfl rfl (by kernel_rfl) (by kernel_rfl) (by kernel_rfl) (fun _ _ _ h => h) (Or.inr ⟨by rfl, rfl⟩) ?fqce32 ?_
      case fqce32 => (go_frame; rfl)
      refine wpIn_take (i := 33) (d := (some 36)) (v := undef) (a' := ?aqce33) rfl rfl (by kernel_rfl) (by kernel_rfl) (by kernel_rfl) (fun _ _ _ h => h) (Or.inr ⟨by rfl, rfl⟩) ?fqce33 ?_
      case fqce33 => (go_frame; rfl)
      refine wpIn_take (i := 34) (d := (some 37)) (v := undef) (a' := ?aqce34) rfl rfl (by kernel_rfl) (by kernel_rfl) (by kernel_rfl) (fun _ _ _ h => h) (Or.inr ⟨by rfl, rfl⟩) ?fqce34 ?_
      case fqce34 => (go_frame; rfl)
      refine wpIn_tk (i := 35) (d := some 38) rfl ?_
      refine wpIn_tk (i := 36) (d := some 2) rfl ?_
      refine wpIn_done hD2225 (by kernel_rfl) ?_ _
      go_wp2
      go_ret
      exact ⟨by rw [HC.out, hs, hk, hp, ha, hh]; rfl, HBW.out _ hD2225⟩
     | true =>
      refine wpIn_tk (i := 0) (d := some 3) rfl ?_
      refine wpIn_tp (i := 1) (d := some 4) rfl (by (intro wq hq; have zf := (HX.out wq hq).isSt; go_simp; first | done | with_reducible rfl)) ?_
      refine wpIn_tk (i := 2) (d := some 5) rfl ?_
      refine wpIn_tk (i := 3) (d := some 6) rfl ?_
      refine wpIn_tp (i := 4) (d := some 7) rfl (by (intro wq hq; have zf := (HX.out wq hq).key; go_simp; first | done | with_reducible rfl)) ?_
      refine wpIn_tk (i := 5) (d := some 8) rfl ?_
      refine wpIn_tk (i := 6) (d := some 9) rfl ?_
      refine wpIn_tk (i := 7) (d := some 10) rfl ?_
      refine wpIn_tk (i := 8) (d := some 11) rfl ?_
      refine wpIn_tp (i := 9) (d := some 12) rfl (by (intro wq hq; have zf := (HX.out wq hq).prev; go_simp; first | done | with_reducible rfl)) ?_
      refine wpIn_tk (i := 10) (d := some 13) rfl ?_
      refine wpIn_tk (i := 11) (d := some 14) rfl ?_
      refine wpIn_tk (i := 12) (d := some 15) rfl ?_
      refine wpIn_tk (i := 13) (d := some 16) rfl ?_
      refine wpIn_tk (i := 14) (d := some 17) rfl ?_
      refine wpIn_tp (i := 15) (d := some 18) rfl (by (intro wq hq; have zf := (HX.out wq hq).authS; go_simp; first | done | with_reducible rfl)) ?_
      refine wpIn_tk (i := 16) (d := some 19) rfl ?_
      refine wpIn_tk (i := 17) (d := some 20) rfl ?_
      refine wpIn_tk (i := 18) (d := some 21) rfl ?_
      refine wpIn_tk (i := 19) (d := some 22) rfl ?_
      refine wpIn_tk (i := 20) (d := some 23) rfl ?_
      refine wpIn_tp (i := 21) (d := some 24) rfl (by (intro wq hq; have zf := (HX.out wq hq).room; go_simp; first | done | with_reducible rfl)) ?_
      refine wpIn_tk (i := 23) (d := some 26) rfl ?_
      refine wpIn_tp (i := 24) (d := some 27) rfl (by (intro wq hq; have zf := (HX.out wq hq).sender; go_simp; first | done | with_reducible rfl)) ?_
      refine wpIn_do (i := 22) hD (by kernel_rfl) rfl (by rfl) ?_
      intro K hK
      go_simp
      go_wp2_with (go_at_call 80; refine (HH1.out _).mono ?_; rintro e w1 ⟨rfl, hbw1⟩)
      have hD22 : Below W.heap.size W w1 := belowP hD hbw1
      refine wpIn_do (i := 25) hD22 (by kernel_rfl) rfl (by rfl) ?_
      intro K hK
      go_simp
      go_wp2_with (go_at_call 80; refine (HH2.out _).mono ?_; rintro e w2 ⟨rfl, hbw2⟩)
      have hD2225 : Below W.heap.size W w2 := belowP hD22 hbw2
      refine wpIn_tk (i := 26) (d := some 29) rfl ?_
      refine wpIn_tk (i := 27) (d := some 30) rfl ?_
      refine wpIn_tk (i := 28) (d := some 31) rfl ?_
      refine wpIn_tk (i := 29) (d := some 32) rfl ?_
      refine wpIn_take (i := 30) (d := (some 33)) (v := (.agg #[.int .i64 e.content.kind, .int .i64 e.content.int, .string e.content.text, .slice p.pk e.content.keys.length p.ck, .slice p.pl e.content.list.length p.cl])) (a' := ?aqcf30) rfl rfl (by kernel_rfl) (by kernel_rfl) (by kernel_rfl) (fun _ _ _ h => h) (Or.inl ⟨by rfl, ?yqcf30⟩) ?fqcf30 ?_
      case yqcf30 => exact fun wq hq => exec_loadR rfl rfl ((HX.out wq hq).runJ)
      case fqcf30 => (go_frame; rfl)
      refine wpIn_tk (i := 32) (d := some 35) rfl ?_
      refine wpIn_tp (i := 33) (d := some 36) rfl (by (intro wq hq; have zf := (HX.out wq hq).sender; go_simp; first | done | with_reducible rfl)) ?_
      refine wpIn_do (i := 31) hD2225 (by kernel_rfl) rfl (by rfl) ?_
      intro K hK
      go_simp
      go_wp2_with (go_at_call 31; refine (HTx.out _ hD2225).mono ?_; rintro e w3 ⟨rfl, hbw3⟩)
      have hD222531 : Below W.heap.size W w3 := belowP hD2225 hbw3
      refine wpIn_tk (i := 34) (d := some 37) rfl ?_
      refine wpIn_tk (i := 35) (d := some 38) rfl ?_
      refine wpIn_tk (i := 36) (d := some 2) rfl ?_
      refine wpIn_done hD222531 (by kernel_rfl) ?_ _
      go_wp2
      go_ret
      exact ⟨by rw [HC.out, hs, hk, hp, ha, hh]; rfl, HBW.out _ hD222531⟩
end Go.Proofs.YtldegjjaknelgaaGreatDoor
namespace Go.Proofs.YtldegjjaknelgaaGreatDoor
open Go.RowKit Go.Maps
theorem run_makeMap_room {t k e : TypeId} (ht : Tryz.prog.underlying t = some (.map k e)) (n : Int) (w : World) : (Instr.makeMap t (some (.int .i64 n))).run Tryz.prog w = .ok (.map (some w.heap.size)) (w.alloc (.map #[] 0)) := by
 simp [Instr.makeMap, run_underlying ht, asInt, asIntOf, Result.andThen]
def SetOf (w : World) (M : Nat) (ks : List ByteArray) : Prop :=
 ∃ D : DataW Unit, w.ownsMap Tryz.prog 9 (unitElem (H := Unit)) M ks.length D ∧ (∀ s, okS s → Maps.has D (klS s) = hasK ks s) ∧ Maps.size D ≤ ks.length ∧ (Maps.size D = ks.length ↔ noKeyTwice ks = true)
theorem SetOf.made (w : World) : SetOf (w.alloc (.map #[] 0)) w.heap.size [] :=
 ⟨.map [], World.ownsMap_made _ _ _ _, fun _ _ => rfl, Nat.le_refl _, ⟨fun _ => rfl, fun _ => rfl⟩⟩
theorem hasK_mem {ks : List ByteArray} {s : ByteArray} : hasK ks s = true ↔ s ∈ ks := by
 unfold hasK
 rw [List.any_eq_true]
 constructor
 · rintro ⟨x, hx, h⟩
   have : x = s := by
    have h := of_decide_eq_true h
    cases x; cases s
    simp only at h
    rw [h]
   exact this ▸ hx
 · exact fun h => ⟨s, h, by simp⟩
theorem noTwice_snoc (ks : List ByteArray) (s : ByteArray) : noKeyTwice (ks ++ [s]) = true ↔ noKeyTwice ks = true ∧ hasK ks s = false := by
 constructor
 · intro h
   have h := List.pairwise_append.1 (noTwice_pair h)
   refine ⟨pair_noTwice h.1, ?_⟩
   cases e : hasK ks s with
   | false => rfl
   | true => exact absurd rfl (h.2.2 s (hasK_mem.1 e) s (by simp))
 · rintro ⟨h1, h2⟩
   refine pair_noTwice (List.pairwise_append.2 ⟨noTwice_pair h1, List.pairwise_singleton _ _, fun a ha b hb e => ?_⟩)
   rw [List.mem_singleton.1 hb] at e
   rw [hasK_mem.2 (e ▸ ha)] at h2
   cases h2
theorem SetOf.put {w w2 : World} {M : Nat} {ks : List ByteArray} {D : DataW Unit} {s : ByteArray} (h0 : w.ownsMap Tryz.prog 9 (unitElem (H := Unit)) M ks.length D) (hown : w2.ownsMap Tryz.prog 9 (unitElem (H := Unit)) M (ks.length + 1) (D.put (klS s) (.agg [])))
    (hh : ∀ s, okS s → Maps.has D (klS s) = hasK ks s) (h1 : Maps.size D ≤ ks.length) (h2 : Maps.size D = ks.length ↔ noKeyTwice ks = true) (hs : okS s) : SetOf w2 M (ks ++ [s]) := by
 have hm := h0.isMap
 have hsz := size_put (k := klS s) (h0.tidy law9) (.agg [])
 rw [hh s hs] at hsz
 refine ⟨D.put (klS s) (.agg []), by rw [List.length_append]; exact hown, fun x hx => ?_, ?_, ?_⟩
 · rw [hasK_snoc]
   by_cases e : x = s
   · subst e
     rw [has_put_same hm (show WideAt.IsKeyLit (klS x) from trivial)]
     simp
   · rw [has_put_other (fun h' => e (klS_inj h')), hh x hx]
     have : decide (s.data = x.data) = false := by
      apply decide_eq_false
      intro h'
      apply e
      cases x; cases s
      simp only at h'
      rw [h']
     rw [this, Bool.or_false]
 · rw [hsz, List.length_append]
   split <;> simp <;> omega
 · rw [hsz, List.length_append, noTwice_snoc, ← h2]
   cases e : hasK ks s with
   | true => simp; omega
   | false => simp
theorem once_any {O : Nat → Prop} {ks : List ByteArray} {p : Option Addr} {c : Nat} {w : World} (hrd : RdK O w p c ks) (hO : ∀ k, O k → k < w.heap.size) (hl : ks.length ≤ 100000) (hkz : ∀ k ∈ ks, k.size ≤ 1000000000) :
    Calls Tryz.prog 132 #[.slice p ks.length c] w fun x w' => x = .returned (.bool (noKeyTwice ks)) ∧ Below w.heap.size w w' := by
 obtain ⟨n, hn⟩ : ∃ n, ks.length = n := ⟨_, rfl⟩
 have HN : Hid (ks.length = n) := hn
 have hcc := hrd.1
 rw [hn] at hl hcc ⊢
 clear hn
 have hmm := run_makeMap_room Tryz.underlying171
 go_enter Tryz.func132, Tryz.ntmps132
 go_wp2
 clear hmm
 go_loopw [11] (fun i wr => ∃ k : Nat, i = .int .i64 k ∧ k ≤ n ∧ Below w.heap.size w wr ∧ SetOf wr w.heap.size (ks.take k)) (fun i _ => n - (intOf i).toNat)
 case atStart => exact ⟨0, rfl, Nat.zero_le _, (Below.refl _ _).alloc (Nat.le_refl _) _, SetOf.made w⟩
 case round =>
  obtain ⟨k, rfl, hk, hb, D, hown, hhas, hs1, hs2⟩ := hrel
  have HH : Hid (∀ s, okS s → Maps.has D (klS s) = hasK (ks.take k) s) := hhas
  have HS2 : Hid (Maps.size D = (ks.take k).length ↔ noKeyTwice (ks.take k) = true) := hs2
  have HS1 : Hid (Maps.size D ≤ (ks.take k).length) := hs1
  have HTL : Hid ((ks.take k).length = k) := by show _ = _; rw [List.length_take, HN.out]; omega
  clear hhas hs1 hs2
  by_cases hlt : k < n
  · have hki : (k : Int) < (n : Int) := by omega
    obtain ⟨a, hpa, hOa, hca⟩ := hrd.2 k (by rw [HN.out]; exact hlt)
    subst hpa
    have hcell : wr.cell? (a.add k) = some (.string (ks.getD k nix)) := (World.cell?_of_block (by rw [add_block]; exact hb.block _ (hO _ hOa))).trans hca
    have hTS : ks.take (k + 1) = ks.take k ++ [ks.getD k nix] := by
     have hkl : k < ks.length := by rw [HN.out]; exact hlt
     rw [List.take_add_one, List.getElem?_eq_getElem hkl, List.getD_eq_getElem?_getD, List.getElem?_eq_getElem hkl]; rfl
    have hus : (ks.getD k nix).size ≤ 1000000000 := hkz _ (by
     have hkl : k < ks.length := by rw [HN.out]; exact hlt
     rw [List.getD_eq_getElem?_getD, List.getElem?_eq_getElem hkl]; exact List.getElem_mem _)
    obtain ⟨u, hu⟩ : ∃ u, ks.getD k nix = u := ⟨_, rfl⟩
    rw [hu] at hcell hTS hus
    have HTS : Hid (ks.take (k + 1) = ks.take k ++ [u]) := hTS
    clear hTS hu hca
    have hok : okS u := by unfold okS maxLen; omega
    have hkey := keyS hok
    have HML : Hid ((ks.take k).length < maxLen) := by show _ < _; rw [HTL.out]; unfold maxLen; omega
    have HV : Hid (unitElem (H := Unit) (.agg #[]) = some (.agg [], [])) := unitElem_mk
    go_wp2_with (at_mapUpdate; refine wpList_mapUpdate_own _ rfl _ _ _ 171 rfl 9 172 law9 Tryz.underlying171 _ w.heap.size (ks.take k).length D rfl hown HML.out _ _ _ rfl rfl hkey (.agg []) [] HV.out ?_; intro w2 hown2 hg2)
    go_roundw
    case rel => exact ⟨k + 1, by go_num, hlt, hb.trans ((Keep.of_grown (S := fun k => k = w.heap.size) hg2 fun _ _ e => (Option.some.inj e).symm).below hb.size fun k hk => by omega), by rw [HTS.out]; exact SetOf.put hown hown2 HH.out HS1.out HS2.out hok⟩
    case measure => simp [intOf]; omega
  · obtain rfl : k = n := by omega
    have hTA : ks.take k = ks := List.take_of_length_le (by rw [HN.out]; omega)
    have hr : decide ((Maps.size D : Int) = (k : Int)) = noKeyTwice ks := by
     have h := HS2.out
     rw [hTA, HN.out] at h
     rw [Bool.eq_iff_iff, ← h, decide_eq_true_eq]
     omega
    have HR : Hid (decide ((Maps.size D : Int) = (k : Int)) = noKeyTwice ks) := hr
    clear hr hTA
    go_wp2_with (at_len; refine wpList_len_own _ rfl _ 171 rfl 9 172 Tryz.underlying171 _ w.heap.size (ks.take k).length D rfl hown ?_)
    go_ret
    exact ⟨ret_bool (by first | exact HR.out | simpa using HR.out), hb⟩
end Go.Proofs.YtldegjjaknelgaaGreatDoor
