/-
  Who changes levels: by a contract.
  Which event makes a room: by a contract.
  Judge: what is thrown is recovered, deferred: by contracts.
-/
import Derived.Test.YtldegjjaknelgaaGreatDoorAK32
import Derived.Defers
import Derived.Recover
set_option maxRecDepth 100000
set_option maxHeartbeats 16000000
namespace Go.Proofs.YtldegjjaknelgaaGreatDoor
open Go.RowKit
section
variable {w : World} {hb : Nat} {h : Hr} {p : Ph}
theorem changes_H (x : IsH w hb h p) (hz : SzH h) : Calls Tryz.prog 60 #[.pointer (some ⟨hb,0,none⟩)] w fun e w' => e = thrown h.changes ∧ Below w.heap.size w w':=by
 have HC : Hid (h.changes = (decide ((parseT (ordT h.e.content)).2 = 0) && (!h.told || mayL h.l (parseT (ordT h.e.content)).1 h.e.sender))):=rfl
 have HX0 : Hid (∀ X,Below w.heap.size w X → IsH X hb h p):=fun X hX => x.below hX
 have HRE : Hid (w.rangeAt hb 0 (cellsE h.e p.e)):=x.rangeE
 have hLv:=levelsIn_any x.ev (fun _ h => h) hz.e.cont
 have HSZ : Hid (SzL (parseT (ordT h.e.content)).1):=parse_sz hz.e.cont
 have HSL : Hid (SzL h.l):=hz.l
 clear x
 unfold LevP at hLv
 generalize parseT (ordT h.e.content) = R at hLv HC HSZ
 obtain ⟨L,E⟩:=R
 simp only at hLv HC HSZ
 go_enter Tryz.func60,Tryz.ntmps60
 go_upto_region 1 with (first
  | (refine wpList_load_mid rfl 28 _ rfl hb 0 rfl (cellsE h.e p.e) _ HRE.out Tryz.underlying28 rfl infoE ?_)
  | (go_at_call 83;refine hLv.mono ?_;rintro e w1 ⟨⟨rfl,q,rfl,hI⟩ | ⟨rfl,rfl⟩,hb1⟩)
  | (refine wpList_store_row rfl 47 _ _ rfl w1.heap.size 47 _ (cellsL L q).toArray rfl rfl (newP _) infoL rfl (one_L L q) ?_))
 case inr => exact ⟨rfl,by rw [HC.out];rfl,hb1⟩
 have hbA : Below w1.heap.size w1 ((w1.alloc (.cells #[.int .i64 0,.int .i64 0,.int .i64 0,.int .i64 0,.int .i64 0,.int .i64 0,.int .i64 0,.slice none 0 0,.slice none 0 0] 47)).setRow w1.heap.size (cellsL L q).toArray) :=
  ((Below.refl _ _).alloc (Nat.le_refl _) _).trans ((keep_setRow _ w1.heap.size _).below (by simp) fun q hq e => by unfold OneP at e;omega)
 have hXA : ((w1.alloc (.cells #[.int .i64 0,.int .i64 0,.int .i64 0,.int .i64 0,.int .i64 0,.int .i64 0,.int .i64 0,.slice none 0 0,.slice none 0 0] 47)).setRow w1.heap.size (cellsL L q).toArray).heap[w1.heap.size]? = some (.cells (cellsL L q).toArray 47 (0,0)):=setRow_heap _ _ _ _ _ _ (newP _)
 generalize (w1.alloc (.cells #[.int .i64 0,.int .i64 0,.int .i64 0,.int .i64 0,.int .i64 0,.int .i64 0,.int .i64 0,.slice none 0 0,.slice none 0 0] 47)).setRow w1.heap.size (cellsL L q).toArray = W at hbA hXA
 have hBW : Below w.heap.size w W:=belowP hb1 hbA
 have HBW : Hid (∀ X,Below W.heap.size W X → Below w.heap.size w X):=fun X hX => belowP hBW hX
 have HX : Hid (∀ X,Below W.heap.size W X → IsH X hb h p):=fun X hX => HX0.out X (belowP hBW hX)
 have HLL : Hid (∀ X,Below W.heap.size W X → X.rangeAt w1.heap.size 0 (cellsL L q) ∧ IsL (· < X.heap.size) X L q):=fun X hX => ⟨range_of ((hX.block _ (objP_lt hXA)).trans hXA),hI.carry fun b hb => ⟨Nat.lt_of_lt_of_le hb.2 (Nat.le_trans hbA.size hX.size),(hX.block b (Nat.lt_of_lt_of_le hb.2 hbA.size)).trans (hbA.block b hb.2)⟩⟩
 have HMy : Hid (∀ X,Below W.heap.size W X → Calls Tryz.prog 94 #[valL h.l p.l,valL L q,.string h.e.sender] X fun e w' => e = .returned (.bool (mayL h.l L h.e.sender)) ∧ Below X.heap.size X w'):=fun X hX => may_lv (HX.out X hX).lv (HLL.out X hX).2 (fun _ h => h) HSL.out HSZ.out h.e.sender
 have ht:=(HX.out W (Below.refl _ _)).isTold
 have HC2 : Hid (h.changes = (!h.told || mayL h.l L h.e.sender)):=by show _ = _;rw [HC.out];rfl
 clear HX0 HC hLv hI hXA hb1 hbA hBW HRE
 generalize mayL h.l L h.e.sender = bm at HMy HC2
 cases h1 : h.told with
 | false =>
  rw [h1] at ht
  go_wp2_with (go_at_call 93;refine (yesIf_any _ _).mono ?_;rintro e wn ⟨he,rfl⟩;replace he : e = _:=he;subst he)
  exact ⟨rfl,by rw [HC2.out,h1];rfl,HBW.out _ (Below.refl _ _)⟩
 | true =>
  rw [h1] at ht
  go_upto_region 2 with (go_at_call 93;refine (yesIf_any _ _).mono ?_;rintro e wn ⟨he,rfl⟩;replace he : e = _:=he;subst he)
  refine wp_region_in (by kernel_rfl) (fun w' => Below W.heap.size W w') ?_
  change wpIn _ _ _ _ _ _ _ _ (World.drew _)
  have hD : Below W.heap.size W W.drew:=(Below.refl _ _).drew
  refine wpIn_tk (i:=0) (d:=some 14) rfl ?_
  refine wpIn_tk (i:=1) (d:=some 15) rfl ?_
  refine wpIn_tk (i:=2) (d:=some 16) rfl ?_
  refine wpIn_take (i:=3) (d:=(some 17)) (v:=(valL h.l p.l)) (a':=?aqk3) rfl rfl (by kernel_rfl) (by kernel_rfl) (by kernel_rfl) (fun _ _ _ h => h) (Or.inl ⟨by rfl,?yqk3⟩) ?fqk3 ?_
  case yqk3 => exact fun wq hq => exec_loadR rfl rfl ((HX.out wq hq).runL)
  case fqk3 => (go_frame;rfl)
  refine wpIn_take (i:=4) (d:=(some 18)) (v:=(valL L q)) (a':=?aqk4) rfl rfl (by kernel_rfl) (by kernel_rfl) (by kernel_rfl) (fun _ _ _ h => h) (Or.inl ⟨by rfl,?yqk4⟩) ?fqk4 ?_
  case yqk4 => exact fun wq hq => exec_loadR rfl rfl (run_loadAt_mid wq w1.heap.size 0 47 (cellsL L q) _ (HLL.out wq hq).1 Tryz.underlying47 rfl infoL)
  case fqk4 => (go_frame;rfl)
  refine wpIn_tk (i:=5) (d:=some 19) rfl ?_
  refine wpIn_tk (i:=6) (d:=some 20) rfl ?_
  refine wpIn_tk (i:=7) (d:=some 21) rfl ?_
  refine wpIn_tk (i:=8) (d:=some 22) rfl ?_
  refine wpIn_tp (i:=9) (d:=some 23) rfl (by (intro wq hq;have zf:=(HX.out wq hq).sender;go_simp;first | done | with_reducible rfl)) ?_
  refine wpIn_do (i:=10) hD (by kernel_rfl) rfl (by rfl) ?_
  intro K hK
  go_simp
  go_wp2_with (go_at_call 94;refine (HMy.out _ hD).mono ?_;rintro e w2 ⟨rfl,hbw2⟩)
  have hD10 : Below W.heap.size W w2:=belowP hD hbw2
  refine wpIn_do (i:=11) hD10 (by kernel_rfl) rfl (by rfl) ?_
  intro K hK
  go_simp
  go_wp2_with (go_at_call 50;refine (says_eq _ _).mono ?_;rintro e w9 ⟨rfl,hw9⟩)
  exact ⟨rfl,by rw [HC2.out,h1];rfl,HBW.out _ (hw9 ▸ hD10)⟩
end
theorem creates_any {O : Nat → Prop} {w : World} {e : Ev} {p : Pt} (h : IsE O w e p) (hO : ∀ b, O b → b < w.heap.size) (hz : SzE e) :
    Calls Tryz.prog 51 #[valE e p] w fun x w' => x = .returned (.bool (createT e)) ∧ Below w.heap.size w w':=by
 obtain ⟨W,hW⟩ : ∃ W,W = w.alloc (.cells (cellsE e p).toArray 28):=⟨_,rfl⟩
 have hb0 : Below w.heap.size w W:=by rw [hW];exact (Below.refl _ _).alloc (Nat.le_refl _) _
 have hX0 : W.heap[w.heap.size]? = some (.cells (cellsE e p).toArray 28 (0,0)):=by rw [hW];exact newP _
 have hV:=isV_new h hO hb0 hX0
 have HX : Hid (∀ X,Below W.heap.size W X → IsV X w.heap.size e p):=fun X hX => hV.below hX
 have HTx : Hid (∀ X,Below W.heap.size W X → Calls Tryz.prog 31 #[.agg #[.int .i64 e.content.kind,.int .i64 e.content.int,.string e.content.text,.slice p.pk e.content.keys.length p.ck,.slice p.pl e.content.list.length p.cl],.string nCreator] X fun x w' => x = .returned (.string (textT e.content nCreator)) ∧ Below X.heap.size X w'):=fun X hX => atext_any (O:=(· < X.heap.size)) (j:=e.content) (HX.out X hX).ev.cont (fun _ h => h) (szP_keys hz.cont) nCreator
 have HH1 : Hid (∀ X,Calls Tryz.prog 80 #[.string e.room] X fun x w' => x = .returned (.string (Id.home e.room)) ∧ Below X.heap.size X w'):=fun X => Id.home_any e.room X (by have:=hz.room;omega)
 have HH2 : Hid (∀ X,Calls Tryz.prog 80 #[.string e.sender] X fun x w' => x = .returned (.string (Id.home e.sender)) ∧ Below X.heap.size X w'):=fun X => Id.home_any e.sender X (by have:=hz.sender;omega)
 have HC : Hid (createT e = (e.st && ((e.key.toList == []) && (decide (e.prev.length = 0) && (decide (e.auth.length = 0) && (((Id.home e.room).toList == (Id.home e.sender).toList) && ((textT e.content nCreator).toList == e.sender.toList))))))):=by
  show _ = _
  unfold createT eqT
  rw [lit_nix]
 generalize textT e.content nCreator = m at HTx HC
 generalize Id.home e.room = r1 at HH1 HC
 generalize Id.home e.sender = r2 at HH2 HC
 have HBW : Hid (∀ X,Below W.heap.size W X → Below w.heap.size w X):=fun X hX => belowP hb0 hX
 clear h hV hX0
 unfold valE
 go_enter Tryz.func51,Tryz.ntmps51
 go_upto_region 1 with fail
 rw [← hW]
 clear hW
 refine wp_region_in (by kernel_rfl) (fun w' => Below W.heap.size W w') ?_
 change wpIn _ _ _ _ _ _ _ _ (World.drew _)
 have hD : Below W.heap.size W W.drew:=(Below.refl _ _).drew
 cases hs : e.st with
 | false =>
  refine wpIn_tk (i:=0) (d:=some 3) rfl ?_
  refine wpIn_tp (i:=1) (d:=some 4) rfl (by (intro wq hq;have zf:=(HX.out wq hq).isSt;go_simp;first | done | with_reducible rfl)) ?_
  refine wpIn_tk (i:=2) (d:=some 5) rfl ?_
  refine wpIn_take (i:=3) (d:=(some 6)) (v:=undef) (a':=?aqca3) rfl rfl (by kernel_rfl) (by kernel_rfl) (by kernel_rfl) (fun _ _ _ h => h) (Or.inr ⟨by rfl,rfl⟩) ?fqca3 ?_
  case fqca3 => (go_frame;rfl)
  refine wpIn_take (i:=4) (d:=(some 7)) (v:=undef) (a':=?aqca4) rfl rfl (by kernel_rfl) (by kernel_rfl) (by kernel_rfl) (fun _ _ _ h => h) (Or.inr ⟨by rfl,rfl⟩) ?fqca4 ?_
  case fqca4 => (go_frame;rfl)
  refine wpIn_take (i:=5) (d:=(some 8)) (v:=undef) (a':=?aqca5) rfl rfl (by kernel_rfl) (by kernel_rfl) (by kernel_rfl) (fun _ _ _ h => h) (Or.inr ⟨by rfl,rfl⟩) ?fqca5 ?_
  case fqca5 => (go_frame;rfl)
  refine wpIn_tk (i:=6) (d:=some 9) rfl ?_
  refine wpIn_tk (i:=7) (d:=some 10) rfl ?_
  refine wpIn_take (i:=8) (d:=(some 11)) (v:=undef) (a':=?aqca8) rfl rfl (by kernel_rfl) (by kernel_rfl) (by kernel_rfl) (fun _ _ _ h => h) (Or.inr ⟨by rfl,rfl⟩) ?fqca8 ?_
  case fqca8 => (go_frame;rfl)
  refine wpIn_take (i:=9) (d:=(some 12)) (v:=undef) (a':=?aqca9) rfl rfl (by kernel_rfl) (by kernel_rfl) (by kernel_rfl) (fun _ _ _ h => h) (Or.inr ⟨by rfl,rfl⟩) ?fqca9 ?_
  case fqca9 => (go_frame;rfl)
  refine wpIn_take (i:=10) (d:=(some 13)) (v:=undef) (a':=?aqca10) rfl rfl (by kernel_rfl) (by kernel_rfl) (by kernel_rfl) (fun _ _ _ h => h) (Or.inr ⟨by rfl,rfl⟩) ?fqca10 ?_
  case fqca10 => (go_frame;rfl)
  refine wpIn_take (i:=11) (d:=(some 14)) (v:=undef) (a':=?aqca11) rfl rfl (by kernel_rfl) (by kernel_rfl) (by kernel_rfl) (fun _ _ _ h => h) (Or.inr ⟨by rfl,rfl⟩) ?fqca11 ?_
  case fqca11 => (go_frame;rfl)
  refine wpIn_tk (i:=12) (d:=some 15) rfl ?_
  refine wpIn_tk (i:=13) (d:=some 16) rfl ?_
  refine wpIn_take (i:=14) (d:=(some 17)) (v:=undef) (a':=?aqca14) rfl rfl (by kernel_rfl) (by kernel_rfl) (by kernel_rfl) (fun _ _ _ h => h) (Or.inr ⟨by rfl,rfl⟩) ?fqca14 ?_
  case fqca14 => (go_frame;rfl)
  refine wpIn_take (i:=15) (d:=(some 18)) (v:=undef) (a':=?aqca15) rfl rfl (by kernel_rfl) (by kernel_rfl) (by kernel_rfl) (fun _ _ _ h => h) (Or.inr ⟨by rfl,rfl⟩) ?fqca15 ?_
  case fqca15 => (go_frame;rfl)
  refine wpIn_take (i:=16) (d:=(some 19)) (v:=undef) (a':=?aqca16) rfl rfl (by kernel_rfl) (by kernel_rfl) (by kernel_rfl) (fun _ _ _ h => h) (Or.inr ⟨by rfl,rfl⟩) ?fqca16 ?_
  case fqca16 => (go_frame;rfl)
  refine wpIn_take (i:=17) (d:=(some 20)) (v:=undef) (a':=?aqca17) rfl rfl (by kernel_rfl) (by kernel_rfl) (by kernel_rfl) (fun _ _ _ h => h) (Or.inr ⟨by rfl,rfl⟩) ?fqca17 ?_
  case fqca17 => (go_frame;rfl)
  refine wpIn_tk (i:=18) (d:=some 21) rfl ?_
  refine wpIn_tk (i:=19) (d:=some 22) rfl ?_
  refine wpIn_take (i:=20) (d:=(some 23)) (v:=undef) (a':=?aqca20) rfl rfl (by kernel_rfl) (by kernel_rfl) (by kernel_rfl) (fun _ _ _ h => h) (Or.inr ⟨by rfl,rfl⟩) ?fqca20 ?_
  case fqca20 => (go_frame;rfl)
  refine wpIn_take (i:=21) (d:=(some 24)) (v:=undef) (a':=?aqca21) rfl rfl (by kernel_rfl) (by kernel_rfl) (by kernel_rfl) (fun _ _ _ h => h) (Or.inr ⟨by rfl,rfl⟩) ?fqca21 ?_
  case fqca21 => (go_frame;rfl)
  refine wpIn_take (i:=22) (d:=(some 25)) (v:=undef) (a':=?aqca22) rfl rfl (by kernel_rfl) (by kernel_rfl) (by kernel_rfl) (fun _ _ _ h => h) (Or.inr ⟨by rfl,rfl⟩) ?fqca22 ?_
  case fqca22 => (go_frame;rfl)
  refine wpIn_take (i:=23) (d:=(some 26)) (v:=undef) (a':=?aqca23) rfl rfl (by kernel_rfl) (by kernel_rfl) (by kernel_rfl) (fun _ _ _ h => h) (Or.inr ⟨by rfl,rfl⟩) ?fqca23 ?_
  case fqca23 => (go_frame;rfl)
  refine wpIn_take (i:=24) (d:=(some 27)) (v:=undef) (a':=?aqca24) rfl rfl (by kernel_rfl) (by kernel_rfl) (by kernel_rfl) (fun _ _ _ h => h) (Or.inr ⟨by rfl,rfl⟩) ?fqca24 ?_
  case fqca24 => (go_frame;rfl)
  refine wpIn_take (i:=25) (d:=(some 28)) (v:=undef) (a':=?aqca25) rfl rfl (by kernel_rfl) (by kernel_rfl) (by kernel_rfl) (fun _ _ _ h => h) (Or.inr ⟨by rfl,rfl⟩) ?fqca25 ?_
  case fqca25 => (go_frame;rfl)
  refine wpIn_take (i:=26) (d:=(some 29)) (v:=undef) (a':=?aqca26) rfl rfl (by kernel_rfl) (by kernel_rfl) (by kernel_rfl) (fun _ _ _ h => h) (Or.inr ⟨by rfl,rfl⟩) ?fqca26 ?_
  case fqca26 => (go_frame;rfl)
  refine wpIn_tk (i:=27) (d:=some 30) rfl ?_
  refine wpIn_tk (i:=28) (d:=some 31) rfl ?_
  refine wpIn_take (i:=29) (d:=(some 32)) (v:=undef) (a':=?aqca29) rfl rfl (by kernel_rfl) (by kernel_rfl) (by kernel_rfl) (fun _ _ _ h => h) (Or.inr ⟨by rfl,rfl⟩) ?fqca29 ?_
  case fqca29 => (go_frame;rfl)
  refine wpIn_take (i:=30) (d:=(some 33)) (v:=undef) (a':=?aqca30) rfl rfl (by kernel_rfl) (by kernel_rfl) (by kernel_rfl) (fun _ _ _ h => h) (Or.inr ⟨by rfl,rfl⟩) ?fqca30 ?_
  case fqca30 => (go_frame;rfl)
  refine wpIn_take (i:=31) (d:=(some 34)) (v:=undef) (a':=?aqca31) rfl rfl (by kernel_rfl) (by kernel_rfl) (by kernel_rfl) (fun _ _ _ h => h) (Or.inr ⟨by rfl,rfl⟩) ?fqca31 ?_
  case fqca31 => (go_frame;rfl)
  refine wpIn_take (i:=32) (d:=(some 35)) (v:=undef) (a':=?aqca32) rfl rfl (by kernel_rfl) (by kernel_rfl) (by kernel_rfl) (fun _ _ _ h => h) (Or.inr ⟨by rfl,rfl⟩) ?fqca32 ?_
  case fqca32 => (go_frame;rfl)
  refine wpIn_take (i:=33) (d:=(some 36)) (v:=undef) (a':=?aqca33) rfl rfl (by kernel_rfl) (by kernel_rfl) (by kernel_rfl) (fun _ _ _ h => h) (Or.inr ⟨by rfl,rfl⟩) ?fqca33 ?_
  case fqca33 => (go_frame;rfl)
  refine wpIn_take (i:=34) (d:=(some 37)) (v:=undef) (a':=?aqca34) rfl rfl (by kernel_rfl) (by kernel_rfl) (by kernel_rfl) (fun _ _ _ h => h) (Or.inr ⟨by rfl,rfl⟩) ?fqca34 ?_
  case fqca34 => (go_frame;rfl)
  refine wpIn_tk (i:=35) (d:=some 38) rfl ?_
  refine wpIn_tk (i:=36) (d:=some 2) rfl ?_
  refine wpIn_done hD (by kernel_rfl) ?_ _
  go_wp2
  go_ret
  exact ⟨by rw [HC.out,hs];rfl,HBW.out _ hD⟩
 | true =>
  cases hk : (e.key.toList == []) with
  | false =>
   have hk2 : e.key.toList.isEmpty = false:=by cases hq : e.key.toList with | nil => rw [hq] at hk;simp at hk | cons a b => rfl
   refine wpIn_tk (i:=0) (d:=some 3) rfl ?_
   refine wpIn_tp (i:=1) (d:=some 4) rfl (by (intro wq hq;have zf:=(HX.out wq hq).isSt;go_simp;first | done | with_reducible rfl)) ?_
   refine wpIn_tk (i:=2) (d:=some 5) rfl ?_
   refine wpIn_tk (i:=3) (d:=some 6) rfl ?_
   refine wpIn_tp (i:=4) (d:=some 7) rfl (by (intro wq hq;have zf:=(HX.out wq hq).key;go_simp;first | done | with_reducible rfl)) ?_
   refine wpIn_tk (i:=5) (d:=some 8) rfl ?_
   refine wpIn_tk (i:=6) (d:=some 9) rfl ?_
   refine wpIn_tk (i:=7) (d:=some 10) rfl ?_
   refine wpIn_take (i:=8) (d:=(some 11)) (v:=undef) (a':=?aqcb8) rfl rfl (by kernel_rfl) (by kernel_rfl) (by kernel_rfl) (fun _ _ _ h => h) (Or.inr ⟨by rfl,rfl⟩) ?fqcb8 ?_
   case fqcb8 => (go_frame;rfl)
   refine wpIn_take (i:=9) (d:=(some 12)) (v:=undef) (a':=?aqcb9) rfl rfl (by kernel_rfl) (by kernel_rfl) (by kernel_rfl) (fun _ _ _ h => h) (Or.inr ⟨by rfl,rfl⟩) ?fqcb9 ?_
   case fqcb9 => (go_frame;rfl)
   refine wpIn_take (i:=10) (d:=(some 13)) (v:=undef) (a':=?aqcb10) rfl rfl (by kernel_rfl) (by kernel_rfl) (by kernel_rfl) (fun _ _ _ h => h) (Or.inr ⟨by rfl,rfl⟩) ?fqcb10 ?_
   case fqcb10 => (go_frame;rfl)
   refine wpIn_take (i:=11) (d:=(some 14)) (v:=undef) (a':=?aqcb11) rfl rfl (by kernel_rfl) (by kernel_rfl) (by kernel_rfl) (fun _ _ _ h => h) (Or.inr ⟨by rfl,rfl⟩) ?fqcb11 ?_
   case fqcb11 => (go_frame;rfl)
   refine wpIn_tk (i:=12) (d:=some 15) rfl ?_
   refine wpIn_tk (i:=13) (d:=some 16) rfl ?_
   refine wpIn_take (i:=14) (d:=(some 17)) (v:=undef) (a':=?aqcb14) rfl rfl (by kernel_rfl) (by kernel_rfl) (by kernel_rfl) (fun _ _ _ h => h) (Or.inr ⟨by rfl,rfl⟩) ?fqcb14 ?_
   case fqcb14 => (go_frame;rfl)
   refine wpIn_take (i:=15) (d:=(some 18)) (v:=undef) (a':=?aqcb15) rfl rfl (by kernel_rfl) (by kernel_rfl) (by kernel_rfl) (fun _ _ _ h => h) (Or.inr ⟨by rfl,rfl⟩) ?fqcb15 ?_
   case fqcb15 => (go_frame;rfl)
   refine wpIn_take (i:=16) (d:=(some 19)) (v:=undef) (a':=?aqcb16) rfl rfl (by kernel_rfl) (by kernel_rfl) (by kernel_rfl) (fun _ _ _ h => h) (Or.inr ⟨by rfl,rfl⟩) ?fqcb16 ?_
   case fqcb16 => (go_frame;rfl)
   refine wpIn_take (i:=17) (d:=(some 20)) (v:=undef) (a':=?aqcb17) rfl rfl (by kernel_rfl) (by kernel_rfl) (by kernel_rfl) (fun _ _ _ h => h) (Or.inr ⟨by rfl,rfl⟩) ?fqcb17 ?_
   case fqcb17 => (go_frame;rfl)
   refine wpIn_tk (i:=18) (d:=some 21) rfl ?_
   refine wpIn_tk (i:=19) (d:=some 22) rfl ?_
   refine wpIn_take (i:=20) (d:=(some 23)) (v:=undef) (a':=?aqcb20) rfl rfl (by kernel_rfl) (by kernel_rfl) (by kernel_rfl) (fun _ _ _ h => h) (Or.inr ⟨by rfl,rfl⟩) ?fqcb20 ?_
   case fqcb20 => (go_frame;rfl)
   refine wpIn_take (i:=21) (d:=(some 24)) (v:=undef) (a':=?aqcb21) rfl rfl (by kernel_rfl) (by kernel_rfl) (by kernel_rfl) (fun _ _ _ h => h) (Or.inr ⟨by rfl,rfl⟩) ?fqcb21 ?_
   case fqcb21 => (go_frame;rfl)
   refine wpIn_take (i:=22) (d:=(some 25)) (v:=undef) (a':=?aqcb22) rfl rfl (by kernel_rfl) (by kernel_rfl) (by kernel_rfl) (fun _ _ _ h => h) (Or.inr ⟨by rfl,rfl⟩) ?fqcb22 ?_
   case fqcb22 => (go_frame;rfl)
   refine wpIn_take (i:=23) (d:=(some 26)) (v:=undef) (a':=?aqcb23) rfl rfl (by kernel_rfl) (by kernel_rfl) (by kernel_rfl) (fun _ _ _ h => h) (Or.inr ⟨by rfl,rfl⟩) ?fqcb23 ?_
   case fqcb23 => (go_frame;rfl)
   refine wpIn_take (i:=24) (d:=(some 27)) (v:=undef) (a':=?aqcb24) rfl rfl (by kernel_rfl) (by kernel_rfl) (by kernel_rfl) (fun _ _ _ h => h) (Or.inr ⟨by rfl,rfl⟩) ?fqcb24 ?_
   case fqcb24 => (go_frame;rfl)
   refine wpIn_take (i:=25) (d:=(some 28)) (v:=undef) (a':=?aqcb25) rfl rfl (by kernel_rfl) (by kernel_rfl) (by kernel_rfl) (fun _ _ _ h => h) (Or.inr ⟨by rfl,rfl⟩) ?fqcb25 ?_
   case fqcb25 => (go_frame;rfl)
   refine wpIn_take (i:=26) (d:=(some 29)) (v:=undef) (a':=?aqcb26) rfl rfl (by kernel_rfl) (by kernel_rfl) (by kernel_rfl) (fun _ _ _ h => h) (Or.inr ⟨by rfl,rfl⟩) ?fqcb26 ?_
   case fqcb26 => (go_frame;rfl)
   refine wpIn_tk (i:=27) (d:=some 30) rfl ?_
   refine wpIn_tk (i:=28) (d:=some 31) rfl ?_
   refine wpIn_take (i:=29) (d:=(some 32)) (v:=undef) (a':=?aqcb29) rfl rfl (by kernel_rfl) (by kernel_rfl) (by kernel_rfl) (fun _ _ _ h => h) (Or.inr ⟨by rfl,rfl⟩) ?fqcb29 ?_
   case fqcb29 => (go_frame;rfl)
   refine wpIn_take (i:=30) (d:=(some 33)) (v:=undef) (a':=?aqcb30) rfl rfl (by kernel_rfl) (by kernel_rfl) (by kernel_rfl) (fun _ _ _ h => h) (Or.inr ⟨by rfl,rfl⟩) ?fqcb30 ?_
   case fqcb30 => (go_frame;rfl)
   refine wpIn_take (i:=31) (d:=(some 34)) (v:=undef) (a':=?aqcb31) rfl rfl (by kernel_rfl) (by kernel_rfl) (by kernel_rfl) (fun _ _ _ h => h) (Or.inr ⟨by rfl,rfl⟩) ?fqcb31 ?_
   case fqcb31 => (go_frame;rfl)
   refine wpIn_take (i:=32) (d:=(some 35)) (v:=undef) (a':=?aqcb32) rfl rfl (by kernel_rfl) (by kernel_rfl) (by kernel_rfl) (fun _ _ _ h => h) (Or.inr ⟨by rfl,rfl⟩) ?fqcb32 ?_
   case fqcb32 => (go_frame;rfl)
   refine wpIn_take (i:=33) (d:=(some 36)) (v:=undef) (a':=?aqcb33) rfl rfl (by kernel_rfl) (by kernel_rfl) (by kernel_rfl) (fun _ _ _ h => h) (Or.inr ⟨by rfl,rfl⟩) ?fqcb33 ?_
   case fqcb33 => (go_frame;rfl)
   refine wpIn_take (i:=34) (d:=(some 37)) (v:=undef) (a':=?aqcb34) rfl rfl (by kernel_rfl) (by kernel_rfl) (by kernel_rfl) (fun _ _ _ h => h) (Or.inr ⟨by rfl,rfl⟩) ?fqcb34 ?_
   case fqcb34 => (go_frame;rfl)
   refine wpIn_tk (i:=35) (d:=some 38) rfl ?_
   refine wpIn_tk (i:=36) (d:=some 2) rfl ?_
   refine wpIn_done hD (by kernel_rfl) ?_ _
   go_wp2
   go_ret
   exact ⟨by rw [HC.out,hs,hk];rfl,HBW.out _ hD⟩
  | true =>
   have hk2 : e.key.toList.isEmpty = true:=by simpa using hk
   cases hp : decide (e.prev.length = 0) with
   | false =>
    have hp2 : ((e.prev.length : Int) == 0) = false:=by simpa using hp
    have hp3 : (e.prev.length == 0) = false:=by simpa using hp
    refine wpIn_tk (i:=0) (d:=some 3) rfl ?_
    refine wpIn_tp (i:=1) (d:=some 4) rfl (by (intro wq hq;have zf:=(HX.out wq hq).isSt;go_simp;first | done | with_reducible rfl)) ?_
    refine wpIn_tk (i:=2) (d:=some 5) rfl ?_
    refine wpIn_tk (i:=3) (d:=some 6) rfl ?_
    refine wpIn_tp (i:=4) (d:=some 7) rfl (by (intro wq hq;have zf:=(HX.out wq hq).key;go_simp;first | done | with_reducible rfl)) ?_
    refine wpIn_tk (i:=5) (d:=some 8) rfl ?_
    refine wpIn_tk (i:=6) (d:=some 9) rfl ?_
    refine wpIn_tk (i:=7) (d:=some 10) rfl ?_
    refine wpIn_tk (i:=8) (d:=some 11) rfl ?_
    refine wpIn_tp (i:=9) (d:=some 12) rfl (by (intro wq hq;have zf:=(HX.out wq hq).prev;go_simp;first | done | with_reducible rfl)) ?_
    refine wpIn_tk (i:=10) (d:=some 13) rfl ?_
    refine wpIn_tk (i:=11) (d:=some 14) rfl ?_
    refine wpIn_tk (i:=12) (d:=some 15) rfl ?_
    refine wpIn_tk (i:=13) (d:=some 16) rfl ?_
    refine wpIn_take (i:=14) (d:=(some 17)) (v:=undef) (a':=?aqcc14) rfl rfl (by kernel_rfl) (by kernel_rfl) (by kernel_rfl) (fun _ _ _ h => h) (Or.inr ⟨by rfl,rfl⟩) ?fqcc14 ?_
    case fqcc14 => (go_frame;rfl)
    refine wpIn_take (i:=15) (d:=(some 18)) (v:=undef) (a':=?aqcc15) rfl rfl (by kernel_rfl) (by kernel_rfl) (by kernel_rfl) (fun _ _ _ h => h) (Or.inr ⟨by rfl,rfl⟩) ?fqcc15 ?_
    case fqcc15 => (go_frame;rfl)
    refine wpIn_take (i:=16) (d:=(some 19)) (v:=undef) (a':=?aqcc16) rfl rfl (by kernel_rfl) (by kernel_rfl) (by kernel_rfl) (fun _ _ _ h => h) (Or.inr ⟨by rfl,rfl⟩) ?fqcc16 ?_
    case fqcc16 => (go_frame;rfl)
    refine wpIn_take (i:=17) (d:=(some 20)) (v:=undef) (a':=?aqcc17) rfl rfl (by kernel_rfl) (by kernel_rfl) (by kernel_rfl) (fun _ _ _ h => h) (Or.inr ⟨by rfl,rfl⟩) ?fqcc17 ?_
    case fqcc17 => (go_frame;rfl)
    refine wpIn_tk (i:=18) (d:=some 21) rfl ?_
    refine wpIn_tk (i:=19) (d:=some 22) rfl ?_
    refine wpIn_take (i:=20) (d:=(some 23)) (v:=undef) (a':=?aqcc20) rfl rfl (by kernel_rfl) (by kernel_rfl) (by kernel_rfl) (fun _ _ _ h => h) (Or.inr ⟨by rfl,rfl⟩) ?fqcc20 ?_
    case fqcc20 => (go_frame;rfl)
    refine wpIn_take (i:=21) (d:=(some 24)) (v:=undef) (a':=?aqcc21) rfl rfl (by kernel_rfl) (by kernel_rfl) (by kernel_rfl) (fun _ _ _ h => h) (Or.inr ⟨by rfl,rfl⟩) ?fqcc21 ?_
    case fqcc21 => (go_frame;rfl)
    refine wpIn_take (i:=22) (d:=(some 25)) (v:=undef) (a':=?aqcc22) rfl rfl (by kernel_rfl) (by kernel_rfl) (by kernel_rfl) (fun _ _ _ h => h) (Or.inr ⟨by rfl,rfl⟩) ?fqcc22 ?_
    case fqcc22 => (go_frame;rfl)
    refine wpIn_take (i:=23) (d:=(some 26)) (v:=undef) (a':=?aqcc23) rfl rfl (by kernel_rfl) (by kernel_rfl) (by kernel_rfl) (fun _ _ _ h => h) (Or.inr ⟨by rfl,rfl⟩) ?fqcc23 ?_
    case fqcc23 => (go_frame;rfl)
    refine wpIn_take (i:=24) (d:=(some 27)) (v:=undef) (a':=?aqcc24) rfl rfl (by kernel_rfl) (by kernel_rfl) (by kernel_rfl) (fun _ _ _ h => h) (Or.inr ⟨by rfl,rfl⟩) ?fqcc24 ?_
    case fqcc24 => (go_frame;rfl)
    refine wpIn_take (i:=25) (d:=(some 28)) (v:=undef) (a':=?aqcc25) rfl rfl (by kernel_rfl) (by kernel_rfl) (by kernel_rfl) (fun _ _ _ h => h) (Or.inr ⟨by rfl,rfl⟩) ?fqcc25 ?_
    case fqcc25 => (go_frame;rfl)
    refine wpIn_take (i:=26) (d:=(some 29)) (v:=undef) (a':=?aqcc26) rfl rfl (by kernel_rfl) (by kernel_rfl) (by kernel_rfl) (fun _ _ _ h => h) (Or.inr ⟨by rfl,rfl⟩) ?fqcc26 ?_
    case fqcc26 => (go_frame;rfl)
    refine wpIn_tk (i:=27) (d:=some 30) rfl ?_
    refine wpIn_tk (i:=28) (d:=some 31) rfl ?_
    refine wpIn_take (i:=29) (d:=(some 32)) (v:=undef) (a':=?aqcc29) rfl rfl (by kernel_rfl) (by kernel_rfl) (by kernel_rfl) (fun _ _ _ h => h) (Or.inr ⟨by rfl,rfl⟩) ?fqcc29 ?_
    case fqcc29 => (go_frame;rfl)
    refine wpIn_take (i:=30) (d:=(some 33)) (v:=undef) (a':=?aqcc30) rfl rfl (by kernel_rfl) (by kernel_rfl) (by kernel_rfl) (fun _ _ _ h => h) (Or.inr ⟨by rfl,rfl⟩) ?fqcc30 ?_
    case fqcc30 => (go_frame;rfl)
    refine wpIn_take (i:=31) (d:=(some 34)) (v:=undef) (a':=?aqcc31) rfl rfl (by kernel_rfl) (by kernel_rfl) (by kernel_rfl) (fun _ _ _ h => h) (Or.inr ⟨by rfl,rfl⟩) ?fqcc31 ?_
    case fqcc31 => (go_frame;rfl)
    refine wpIn_take (i:=32) (d:=(some 35)) (v:=undef) (a':=?aqcc32) rfl rfl (by kernel_rfl) (by kernel_rfl) (by kernel_rfl) (fun _ _ _ h => h) (Or.inr ⟨by rfl,rfl⟩) ?fqcc32 ?_
    case fqcc32 => (go_frame;rfl)
    refine wpIn_take (i:=33) (d:=(some 36)) (v:=undef) (a':=?aqcc33) rfl rfl (by kernel_rfl) (by kernel_rfl) (by kernel_rfl) (fun _ _ _ h => h) (Or.inr ⟨by rfl,rfl⟩) ?fqcc33 ?_
    case fqcc33 => (go_frame;rfl)
    refine wpIn_take (i:=34) (d:=(some 37)) (v:=undef) (a':=?aqcc34) rfl rfl (by kernel_rfl) (by kernel_rfl) (by kernel_rfl) (fun _ _ _ h => h) (Or.inr ⟨by rfl,rfl⟩) ?fqcc34 ?_
    case fqcc34 => (go_frame;rfl)
    refine wpIn_tk (i:=35) (d:=some 38) rfl ?_
    refine wpIn_tk (i:=36) (d:=some 2) rfl ?_
    refine wpIn_done hD (by kernel_rfl) ?_ _
    go_wp2
    go_ret
    exact ⟨by rw [HC.out,hs,hk,hp];rfl,HBW.out _ hD⟩
   | true =>
    have hp2 : ((e.prev.length : Int) == 0) = true:=by simpa using hp
    have hp3 : (e.prev.length == 0) = true:=by simpa using hp
    cases ha : decide (e.auth.length = 0) with
    | false =>
     have ha2 : ((e.auth.length : Int) == 0) = false:=by simpa using ha
     have ha3 : (e.auth.length == 0) = false:=by simpa using ha
     refine wpIn_tk (i:=0) (d:=some 3) rfl ?_
     refine wpIn_tp (i:=1) (d:=some 4) rfl (by (intro wq hq;have zf:=(HX.out wq hq).isSt;go_simp;first | done | with_reducible rfl)) ?_
     refine wpIn_tk (i:=2) (d:=some 5) rfl ?_
     refine wpIn_tk (i:=3) (d:=some 6) rfl ?_
     refine wpIn_tp (i:=4) (d:=some 7) rfl (by (intro wq hq;have zf:=(HX.out wq hq).key;go_simp;first | done | with_reducible rfl)) ?_
     refine wpIn_tk (i:=5) (d:=some 8) rfl ?_
     refine wpIn_tk (i:=6) (d:=some 9) rfl ?_
     refine wpIn_tk (i:=7) (d:=some 10) rfl ?_
     refine wpIn_tk (i:=8) (d:=some 11) rfl ?_
     refine wpIn_tp (i:=9) (d:=some 12) rfl (by (intro wq hq;have zf:=(HX.out wq hq).prev;go_simp;first | done | with_reducible rfl)) ?_
     refine wpIn_tk (i:=10) (d:=some 13) rfl ?_
     refine wpIn_tk (i:=11) (d:=some 14) rfl ?_
     refine wpIn_tk (i:=12) (d:=some 15) rfl ?_
     refine wpIn_tk (i:=13) (d:=some 16) rfl ?_
     refine wpIn_tk (i:=14) (d:=some 17) rfl ?_
     refine wpIn_tp (i:=15) (d:=some 18) rfl (by (intro wq hq;have zf:=(HX.out wq hq).authS;go_simp;first | done | with_reducible rfl)) ?_
     refine wpIn_tk (i:=16) (d:=some 19) rfl ?_
     refine wpIn_tk (i:=17) (d:=some 20) rfl ?_
     refine wpIn_tk (i:=18) (d:=some 21) rfl ?_
     refine wpIn_tk (i:=19) (d:=some 22) rfl ?_
     refine wpIn_take (i:=20) (d:=(some 23)) (v:=undef) (a':=?aqcd20) rfl rfl (by kernel_rfl) (by kernel_rfl) (by kernel_rfl) (fun _ _ _ h => h) (Or.inr ⟨by rfl,rfl⟩) ?fqcd20 ?_
     case fqcd20 => (go_frame;rfl)
     refine wpIn_take (i:=21) (d:=(some 24)) (v:=undef) (a':=?aqcd21) rfl rfl (by kernel_rfl) (by kernel_rfl) (by kernel_rfl) (fun _ _ _ h => h) (Or.inr ⟨by rfl,rfl⟩) ?fqcd21 ?_
     case fqcd21 => (go_frame;rfl)
     refine wpIn_take (i:=22) (d:=(some 25)) (v:=undef) (a':=?aqcd22) rfl rfl (by kernel_rfl) (by kernel_rfl) (by kernel_rfl) (fun _ _ _ h => h) (Or.inr ⟨by rfl,rfl⟩) ?fqcd22 ?_
     case fqcd22 => (go_frame;rfl)
     refine wpIn_take (i:=23) (d:=(some 26)) (v:=undef) (a':=?aqcd23) rfl rfl (by kernel_rfl) (by kernel_rfl) (by kernel_rfl) (fun _ _ _ h => h) (Or.inr ⟨by rfl,rfl⟩) ?fqcd23 ?_
     case fqcd23 => (go_frame;rfl)
     refine wpIn_take (i:=24) (d:=(some 27)) (v:=undef) (a':=?aqcd24) rfl rfl (by kernel_rfl) (by kernel_rfl) (by kernel_rfl) (fun _ _ _ h => h) (Or.inr ⟨by rfl,rfl⟩) ?fqcd24 ?_
     case fqcd24 => (go_frame;rfl)
     refine wpIn_take (i:=25) (d:=(some 28)) (v:=undef) (a':=?aqcd25) rfl rfl (by kernel_rfl) (by kernel_rfl) (by kernel_rfl) (fun _ _ _ h => h) (Or.inr ⟨by rfl,rfl⟩) ?fqcd25 ?_
     case fqcd25 => (go_frame;rfl)
     refine wpIn_take (i:=26) (d:=(some 29)) (v:=undef) (a':=?aqcd26) rfl rfl (by kernel_rfl) (by kernel_rfl) (by kernel_rfl) (fun _ _ _ h => h) (Or.inr ⟨by rfl,rfl⟩) ?fqcd26 ?_
     case fqcd26 => (go_frame;rfl)
     refine wpIn_tk (i:=27) (d:=some 30) rfl ?_
     refine wpIn_tk (i:=28) (d:=some 31) rfl ?_
     refine wpIn_take (i:=29) (d:=(some 32)) (v:=undef) (a':=?aqcd29) rfl rfl (by kernel_rfl) (by kernel_rfl) (by kernel_rfl) (fun _ _ _ h => h) (Or.inr ⟨by rfl,rfl⟩) ?fqcd29 ?_
     case fqcd29 => (go_frame;rfl)
     refine wpIn_take (i:=30) (d:=(some 33)) (v:=undef) (a':=?aqcd30) rfl rfl (by kernel_rfl) (by kernel_rfl) (by kernel_rfl) (fun _ _ _ h => h) (Or.inr ⟨by rfl,rfl⟩) ?fqcd30 ?_
     case fqcd30 => (go_frame;rfl)
     refine wpIn_take (i:=31) (d:=(some 34)) (v:=undef) (a':=?aqcd31) rfl rfl (by kernel_rfl) (by kernel_rfl) (by kernel_rfl) (fun _ _ _ h => h) (Or.inr ⟨by rfl,rfl⟩) ?fqcd31 ?_
     case fqcd31 => (go_frame;rfl)
     refine wpIn_take (i:=32) (d:=(some 35)) (v:=undef) (a':=?aqcd32) rfl rfl (by kernel_rfl) (by kernel_rfl) (by kernel_rfl) (fun _ _ _ h => h) (Or.inr ⟨by rfl,rfl⟩) ?fqcd32 ?_
     case fqcd32 => (go_frame;rfl)
     refine wpIn_take (i:=33) (d:=(some 36)) (v:=undef) (a':=?aqcd33) rfl rfl (by kernel_rfl) (by kernel_rfl) (by kernel_rfl) (fun _ _ _ h => h) (Or.inr ⟨by rfl,rfl⟩) ?fqcd33 ?_
     case fqcd33 => (go_frame;rfl)
     refine wpIn_take (i:=34) (d:=(some 37)) (v:=undef) (a':=?aqcd34) rfl rfl (by kernel_rfl) (by kernel_rfl) (by kernel_rfl) (fun _ _ _ h => h) (Or.inr ⟨by rfl,rfl⟩) ?fqcd34 ?_
     case fqcd34 => (go_frame;rfl)
     refine wpIn_tk (i:=35) (d:=some 38) rfl ?_
     refine wpIn_tk (i:=36) (d:=some 2) rfl ?_
     refine wpIn_done hD (by kernel_rfl) ?_ _
     go_wp2
     go_ret
     exact ⟨by rw [HC.out,hs,hk,hp,ha];rfl,HBW.out _ hD⟩
    | true =>
     have ha2 : ((e.auth.length : Int) == 0) = true:=by simpa using ha
     have ha3 : (e.auth.length == 0) = true:=by simpa using ha
     cases hh : (r1.toList == r2.toList) with
     | false =>
      refine wpIn_tk (i:=0) (d:=some 3) rfl ?_
      refine wpIn_tp (i:=1) (d:=some 4) rfl (by (intro wq hq;have zf:=(HX.out wq hq).isSt;go_simp;first | done | with_reducible rfl)) ?_
      refine wpIn_tk (i:=2) (d:=some 5) rfl ?_
      refine wpIn_tk (i:=3) (d:=some 6) rfl ?_
      refine wpIn_tp (i:=4) (d:=some 7) rfl (by (intro wq hq;have zf:=(HX.out wq hq).key;go_simp;first | done | with_reducible rfl)) ?_
      refine wpIn_tk (i:=5) (d:=some 8) rfl ?_
      refine wpIn_tk (i:=6) (d:=some 9) rfl ?_
      refine wpIn_tk (i:=7) (d:=some 10) rfl ?_
      refine wpIn_tk (i:=8) (d:=some 11) rfl ?_
      refine wpIn_tp (i:=9) (d:=some 12) rfl (by (intro wq hq;have zf:=(HX.out wq hq).prev;go_simp;first | done | with_reducible rfl)) ?_
      refine wpIn_tk (i:=10) (d:=some 13) rfl ?_
      refine wpIn_tk (i:=11) (d:=some 14) rfl ?_
      refine wpIn_tk (i:=12) (d:=some 15) rfl ?_
      refine wpIn_tk (i:=13) (d:=some 16) rfl ?_
      refine wpIn_tk (i:=14) (d:=some 17) rfl ?_
      refine wpIn_tp (i:=15) (d:=some 18) rfl (by (intro wq hq;have zf:=(HX.out wq hq).authS;go_simp;first | done | with_reducible rfl)) ?_
      refine wpIn_tk (i:=16) (d:=some 19) rfl ?_
      refine wpIn_tk (i:=17) (d:=some 20) rfl ?_
      refine wpIn_tk (i:=18) (d:=some 21) rfl ?_
      refine wpIn_tk (i:=19) (d:=some 22) rfl ?_
      refine wpIn_tk (i:=20) (d:=some 23) rfl ?_
      refine wpIn_tp (i:=21) (d:=some 24) rfl (by (intro wq hq;have zf:=(HX.out wq hq).room;go_simp;first | done | with_reducible rfl)) ?_
      refine wpIn_tk (i:=23) (d:=some 26) rfl ?_
      refine wpIn_tp (i:=24) (d:=some 27) rfl (by (intro wq hq;have zf:=(HX.out wq hq).sender;go_simp;first | done | with_reducible rfl)) ?_
      refine wpIn_do (i:=22) hD (by kernel_rfl) rfl (by rfl) ?_
      intro K hK
      go_simp
      go_wp2_with (go_at_call 80;refine (HH1.out _).mono ?_;rintro e w1 ⟨rfl,hbw1⟩)
      have hD22 : Below W.heap.size W w1:=belowP hD hbw1
      refine wpIn_do (i:=25) hD22 (by kernel_rfl) rfl (by rfl) ?_
      intro K hK
      go_simp
      go_wp2_with (go_at_call 80;refine (HH2.out _).mono ?_;rintro e w2 ⟨rfl,hbw2⟩)
      have hD2225 : Below W.heap.size W w2:=belowP hD22 hbw2
      refine wpIn_tk (i:=26) (d:=some 29) rfl ?_
      refine wpIn_tk (i:=27) (d:=some 30) rfl ?_
      refine wpIn_tk (i:=28) (d:=some 31) rfl ?_
      refine wpIn_take (i:=29) (d:=(some 32)) (v:=undef) (a':=?aqce29) rfl rfl (by kernel_rfl) (by kernel_rfl) (by kernel_rfl) (fun _ _ _ h => h) (Or.inr ⟨by rfl,rfl⟩) ?fqce29 ?_
      case fqce29 => (go_frame;rfl)
      refine wpIn_take (i:=30) (d:=(some 33)) (v:=undef) (a':=?aqce30) rfl rfl (by kernel_rfl) (by kernel_rfl) (by kernel_rfl) (fun _ _ _ h => h) (Or.inr ⟨by rfl,rfl⟩) ?fqce30 ?_
      case fqce30 => (go_frame;rfl)
      refine wpIn_take (i:=31) (d:=(some 34)) (v:=undef) (a':=?aqce31) rfl rfl (by kernel_rfl) (by kernel_rfl) (by kernel_rfl) (fun _ _ _ h => h) (Or.inr ⟨by rfl,rfl⟩) ?fqce31 ?_
      case fqce31 => (go_frame;rfl)
      refine wpIn_take (i:=32) (d:=(some 35)) (v:=undef) (a':=?aqce32) rfl rfl (by kernel_rfl) (by kernel_rfl) (by kernel_rfl) (fun _ _ _ h => h) (Or.inr ⟨by rfl,rfl⟩) ?fqce32 ?_
      case fqce32 => (go_frame;rfl)
      refine wpIn_take (i:=33) (d:=(some 36)) (v:=undef) (a':=?aqce33) rfl rfl (by kernel_rfl) (by kernel_rfl) (by kernel_rfl) (fun _ _ _ h => h) (Or.inr ⟨by rfl,rfl⟩) ?fqce33 ?_
      case fqce33 => (go_frame;rfl)
      refine wpIn_take (i:=34) (d:=(some 37)) (v:=undef) (a':=?aqce34) rfl rfl (by kernel_rfl) (by kernel_rfl) (by kernel_rfl) (fun _ _ _ h => h) (Or.inr ⟨by rfl,rfl⟩) ?fqce34 ?_
      case fqce34 => (go_frame;rfl)
      refine wpIn_tk (i:=35) (d:=some 38) rfl ?_
      refine wpIn_tk (i:=36) (d:=some 2) rfl ?_
      refine wpIn_done hD2225 (by kernel_rfl) ?_ _
      go_wp2
      go_ret
      exact ⟨by rw [HC.out,hs,hk,hp,ha,hh];rfl,HBW.out _ hD2225⟩
     | true =>
      refine wpIn_tk (i:=0) (d:=some 3) rfl ?_
      refine wpIn_tp (i:=1) (d:=some 4) rfl (by (intro wq hq;have zf:=(HX.out wq hq).isSt;go_simp;first | done | with_reducible rfl)) ?_
      refine wpIn_tk (i:=2) (d:=some 5) rfl ?_
      refine wpIn_tk (i:=3) (d:=some 6) rfl ?_
      refine wpIn_tp (i:=4) (d:=some 7) rfl (by (intro wq hq;have zf:=(HX.out wq hq).key;go_simp;first | done | with_reducible rfl)) ?_
      refine wpIn_tk (i:=5) (d:=some 8) rfl ?_
      refine wpIn_tk (i:=6) (d:=some 9) rfl ?_
      refine wpIn_tk (i:=7) (d:=some 10) rfl ?_
      refine wpIn_tk (i:=8) (d:=some 11) rfl ?_
      refine wpIn_tp (i:=9) (d:=some 12) rfl (by (intro wq hq;have zf:=(HX.out wq hq).prev;go_simp;first | done | with_reducible rfl)) ?_
      refine wpIn_tk (i:=10) (d:=some 13) rfl ?_
      refine wpIn_tk (i:=11) (d:=some 14) rfl ?_
      refine wpIn_tk (i:=12) (d:=some 15) rfl ?_
      refine wpIn_tk (i:=13) (d:=some 16) rfl ?_
      refine wpIn_tk (i:=14) (d:=some 17) rfl ?_
      refine wpIn_tp (i:=15) (d:=some 18) rfl (by (intro wq hq;have zf:=(HX.out wq hq).authS;go_simp;first | done | with_reducible rfl)) ?_
      refine wpIn_tk (i:=16) (d:=some 19) rfl ?_
      refine wpIn_tk (i:=17) (d:=some 20) rfl ?_
      refine wpIn_tk (i:=18) (d:=some 21) rfl ?_
      refine wpIn_tk (i:=19) (d:=some 22) rfl ?_
      refine wpIn_tk (i:=20) (d:=some 23) rfl ?_
      refine wpIn_tp (i:=21) (d:=some 24) rfl (by (intro wq hq;have zf:=(HX.out wq hq).room;go_simp;first | done | with_reducible rfl)) ?_
      refine wpIn_tk (i:=23) (d:=some 26) rfl ?_
      refine wpIn_tp (i:=24) (d:=some 27) rfl (by (intro wq hq;have zf:=(HX.out wq hq).sender;go_simp;first | done | with_reducible rfl)) ?_
      refine wpIn_do (i:=22) hD (by kernel_rfl) rfl (by rfl) ?_
      intro K hK
      go_simp
      go_wp2_with (go_at_call 80;refine (HH1.out _).mono ?_;rintro e w1 ⟨rfl,hbw1⟩)
      have hD22 : Below W.heap.size W w1:=belowP hD hbw1
      refine wpIn_do (i:=25) hD22 (by kernel_rfl) rfl (by rfl) ?_
      intro K hK
      go_simp
      go_wp2_with (go_at_call 80;refine (HH2.out _).mono ?_;rintro e w2 ⟨rfl,hbw2⟩)
      have hD2225 : Below W.heap.size W w2:=belowP hD22 hbw2
      refine wpIn_tk (i:=26) (d:=some 29) rfl ?_
      refine wpIn_tk (i:=27) (d:=some 30) rfl ?_
      refine wpIn_tk (i:=28) (d:=some 31) rfl ?_
      refine wpIn_tk (i:=29) (d:=some 32) rfl ?_
      refine wpIn_take (i:=30) (d:=(some 33)) (v:=(.agg #[.int .i64 e.content.kind,.int .i64 e.content.int,.string e.content.text,.slice p.pk e.content.keys.length p.ck,.slice p.pl e.content.list.length p.cl])) (a':=?aqcf30) rfl rfl (by kernel_rfl) (by kernel_rfl) (by kernel_rfl) (fun _ _ _ h => h) (Or.inl ⟨by rfl,?yqcf30⟩) ?fqcf30 ?_
      case yqcf30 => exact fun wq hq => exec_loadR rfl rfl ((HX.out wq hq).runJ)
      case fqcf30 => (go_frame;rfl)
      refine wpIn_tk (i:=32) (d:=some 35) rfl ?_
      refine wpIn_tp (i:=33) (d:=some 36) rfl (by (intro wq hq;have zf:=(HX.out wq hq).sender;go_simp;first | done | with_reducible rfl)) ?_
      refine wpIn_do (i:=31) hD2225 (by kernel_rfl) rfl (by rfl) ?_
      intro K hK
      go_simp
      go_wp2_with (go_at_call 31;refine (HTx.out _ hD2225).mono ?_;rintro e w3 ⟨rfl,hbw3⟩)
      have hD222531 : Below W.heap.size W w3:=belowP hD2225 hbw3
      refine wpIn_tk (i:=34) (d:=some 37) rfl ?_
      refine wpIn_tk (i:=35) (d:=some 38) rfl ?_
      refine wpIn_tk (i:=36) (d:=some 2) rfl ?_
      refine wpIn_done hD222531 (by kernel_rfl) ?_ _
      go_wp2
      go_ret
      exact ⟨by rw [HC.out,hs,hk,hp,ha,hh];rfl,HBW.out _ hD222531⟩
theorem judge_caught (b : Bool) (w : World) (g : Nat) (v0 : Value) (hg : w.heap[g]? = some (.cells #[v0] 32 (0, 0))) :
    CallsD Tryz.prog 25 #[.pointer (some ⟨g,0,none⟩)] (.panicking [{ v:=.iface 84 (.agg #[.bool b]),recovered:=false }]) w fun e u' w' => e = .returned (.tuple #[]) ∧ u' = .panicking [{ v:=.iface 84 (.agg #[.bool b]),recovered:=true }] ∧ w'.heap[g]? = some (.cells #[.int .i64 (if b = true then 0 else 110)] 32 (0,0)) ∧ Keep (OneP g) w w':=by
 have hV:=verdict_any b w
 refine callsD_of_wpS Tryz.func25 rfl fun c₀ cs hu => ?_
 apply wpS_region
 simp [wpOpsS,go_sem,recoverD,hu,Tryz.ntmps25]
 refine hV.mono ?_
 rintro e w1 ⟨rfl,hb1⟩
 have hg1:=(hb1.block g (objP_lt hg)).trans hg
 have c0:=cellP hg1 0 _ rfl
 have z0:=fzP hg1 0
 have hk : Keep (OneP g) w (w1.setCell ⟨g,0,none⟩ (.int .i64 (if b = true then 0 else 110))):=Keep.setCell (S:=OneP g) (p:=⟨g,0,none⟩) (Keep.of_below hb1) (fun _ => (rfl : g = g)) _
 have hh : (w1.setCell ⟨g,0,none⟩ (.int .i64 (if b = true then 0 else 110))).heap[g]? = some (.cells #[.int .i64 (if b = true then 0 else 110)] 32 (0,0)):=by rw [heap_setCell_same w1 g 0 _ _ _ hg1];rfl
 simp [go_sem,c0,z0,bodyPostS,results,Tryz.results25]
 exact ⟨hh,hk⟩
theorem shape_cases (e : Ev) : (shapedE e = false ∧ shapeE e = 50) ∨ (shapedE e = true ∧ (shapeE e = 0 ∨ shapeE e = 13)):=by
 unfold shapeE
 cases shapedE e with
 | false => exact .inl ⟨rfl,rfl⟩
 | true =>
  right
  refine ⟨rfl,?_⟩
  rw [if_pos rfl]
  split
  · exact .inr rfl
  · exact .inl rfl
theorem judge_of {O : Nat → Prop} {w : World} {e : Ev} {p : Pt} {ps : Option Addr} {n cs : Nat} {b : Bool} (h : IsE O w e p) (hO : ∀ k, O k → k < w.heap.size) (hz : SzE e) (hT : Tabs w)
    (HA : ∀ X,Below w.heap.size w X → Calls Tryz.prog 27 #[valE e p,.slice ps n cs] X fun x w' => x = thrown b ∧ Below X.heap.size X w') :
    Calls Tryz.prog 11 #[valE e p,.slice ps n cs] w fun x w' => x = .returned (.int .i64 (if shapedE e = true then (if b = true then 0 else 110) else 50)) ∧ Below w.heap.size w w':=by
 obtain ⟨W0,hW0⟩ : ∃ W0,W0 = (w.alloc (.cells (cellsE e p).toArray 28)).alloc (.cells #[.int .i64 0] 32):=⟨_,rfl⟩
 have hb0 : Below w.heap.size w W0:=by rw [hW0];exact ((Below.refl _ _).alloc (Nat.le_refl _) _).alloc (by simp) _
 have hX0 : W0.heap[w.heap.size]? = some (.cells (cellsE e p).toArray 28 (0,0)):=by rw [hW0,Below.heap_alloc _ _ _ (by simp)];exact newP _
 have hR0 : W0.heap[w.heap.size + 1]? = some (.cells #[.int .i64 0] 32 (0,0)):=by
  rw [hW0]
  have:=newP (w:=w.alloc (.cells (cellsE e p).toArray 28)) (.cells #[.int .i64 0] 32)
  rw [World.size_alloc] at this
  exact this
 have hV:=isV_new h hO hb0 hX0
 have HX : Hid (∀ X,Below W0.heap.size W0 X → X.rangeAt w.heap.size 0 (cellsE e p) ∧ X.heap[w.heap.size + 1]? = some (.cells #[.int .i64 0] 32 (0,0))):=fun X hX => ⟨(hV.below hX).rangeE,(hX.block _ (objP_lt hR0)).trans hR0⟩
 have hSh:=eShape_any e p W0 hV.ev (fun _ h => h) hz (hT.below hb0)
 have HASK : Hid (∀ X,Below W0.heap.size W0 X → Calls Tryz.prog 27 #[valE e p,.slice ps n cs] X fun x w' => x = thrown b ∧ Below X.heap.size X w'):=fun X hX => HA X (belowP hb0 hX)
 have hmf : ∀ (fn : Fn) (first cap : Array Value) (w : World),(Instr.makeFunc fn first cap).run Tryz.prog w = .ok (.func fn first cap) w:=fun _ _ _ _ => rfl
 have HRG:=(show Hid _ from (HX.out W0 (Below.refl _ _)).1)
 clear h hV HA hX0 hR0
 unfold valE at hSh HASK ⊢
 obtain ⟨r,hr⟩ : ∃ r : Int,(if b = true then (0 : Int) else 110) = r:=⟨_,rfl⟩
 rw [hr]
 have HRR : Hid ((if b = true then (0 : Int) else 110) = r):=hr
 clear hr
 rcases shape_cases e with ⟨h1,h2⟩ | ⟨h1,h2⟩
 · rw [h2] at hSh
   rw [h1]
   go_enter_defers Tryz.func11,Tryz.ntmps11
   go_upto_region 1 with fail
   rw [← hW0]
   clear hW0
   go_wp2_with (first
    | (refine wpList_load_mid rfl 28 _ rfl w.heap.size 0 rfl (cellsE e p) _ HRG.out Tryz.underlying28 rfl infoE ?_)
    | (go_at_call 24; refine hSh.mono ?_; rintro x w1 ⟨rfl, hb1⟩
       have hR1:=(HX.out w1 hb1).2
       have c0:=cellP hR1 0 _ rfl
       have z0:=fzP hR1 0
       have HR1:=(show Hid _ from hR1)
       clear hR1))
   have hh : (w1.setCell ⟨w.heap.size + 1,0,none⟩ (.int .i64 50)).heap[w.heap.size + 1]? = some (.cells #[.int .i64 50] 32 (0,0)):=by rw [heap_setCell_same w1 (w.heap.size + 1) 0 _ _ _ HR1.out];rfl
   have hk : Keep (OneP (w.heap.size + 1)) w1 (w1.setCell ⟨w.heap.size + 1,0,none⟩ (.int .i64 50)):=Keep.setCell (S:=OneP (w.heap.size + 1)) (p:=⟨w.heap.size + 1,0,none⟩) (Keep.refl _ _) (fun _ => (rfl : w.heap.size + 1 = w.heap.size + 1)) _
   have c1:=cellP hh 0 _ rfl
   have hbE : Below w.heap.size w w1:=belowP hb0 hb1
   have hbF:=hbE.trans (hk.below hbE.size fun k hk e => by unfold OneP at e;omega)
   generalize w1.setCell ⟨w.heap.size + 1,0,none⟩ (.int .i64 50) = w2 at c1 hbF
   simp [bodyPostD,Leaves,results,Tryz.results11,go_sem,c1]
   exact hbF
 · have hs : (shapeE e == 50) = false:=by rcases h2 with h | h <;> rw [h] <;> rfl
   generalize shapeE e = sh at hSh hs
   clear h2
   rw [h1]
   go_enter_defers Tryz.func11,Tryz.ntmps11
   go_upto_region 1 with fail
   rw [← hW0]
   clear hW0
   go_upto_region 4 with (first
    | (refine wpList_load_mid rfl 28 _ rfl w.heap.size 0 rfl (cellsE e p) _ HRG.out Tryz.underlying28 rfl infoE ?_)
    | (go_at_call 24;refine hSh.mono ?_;rintro x w1 ⟨rfl,hb1⟩))
   have HRG2:=(show Hid _ from (HX.out w1 hb1).1)
   have hAsk:=HASK.out w1 hb1
   clear HRG hSh
   go_wp2_with (first
    | (refine wpList_load_mid rfl 28 _ rfl w.heap.size 0 rfl (cellsE e p) _ HRG2.out Tryz.underlying28 rfl infoE ?_)
    | (go_at_call 27;refine hAsk.mono ?_;rintro x w2 ⟨rfl,hb2⟩))
   refine leaves_cons (f:=25) (args:=#[.pointer (some ⟨w.heap.size + 1,0,none⟩)]) (by simp) (by simp [go_sem]) ?_
   refine (judge_caught b w2 (w.heap.size + 1) _ (HX.out w2 (belowP hb1 hb2)).2).mono ?_
   rintro x u' w3 ⟨rfl,rfl,hh,hk⟩
   rw [HRR.out] at hh
   have c1:=cellP hh 0 _ rfl
   have hbE : Below w.heap.size w w2:=belowP hb0 (belowP hb1 hb2)
   have hbF:=hbE.trans (hk.below hbE.size fun k hk e => by unfold OneP at e;omega)
   simp [Leaves,settle,results,Tryz.results11,go_sem,c1]
   exact hbF
end Go.Proofs.YtldegjjaknelgaaGreatDoor
