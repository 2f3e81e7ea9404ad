/-
  The document's levels of a state: by contracts.
  Nobody bans or throws out anybody whose level is no less than their own, and what needs a level is done by nobody below it: the law.
  Who is banned does not join, and is not invited, and is let go only by who may ban: the law.
  Who is banned does not join, and is not invited, and is let go only by who may ban: the law, walked.
-/
import Derived.Test.YtldegjjaknelgaaGreatDoorAK38
set_option maxRecDepth 100000
set_option maxHeartbeats 64000000
namespace Go.Proofs.YtldegjjaknelgaaGreatDoor
open Go.RowKit
def rlevT (l : List Kn) : Lv × Bool:=match findT l tPower ⟨#[]⟩ with
 | some k => ((rparseT k.2.content).1,decide ((rparseT k.2.content).2 = 0))
 | none => (startL ((findT l tCreate ⟨#[]⟩).getD zK).2.sender,true)
def RLevP (w w' : World) (r : Lv × Bool) (x : Ending) : Prop:=(∃ q,x = .returned (.tuple #[valL r.1 q,.bool r.2]) ∧ IsL (fun b => w.heap.size ≤ b ∧ b < w'.heap.size) w' r.1 q) ∧ Below w.heap.size w w'
theorem rparse_err (c : J) : (rparseT c).2 = 0 ∨ (rparseT c).2 = 1:=by rw [← parse_same];exact parse_err _
theorem rlevels_any {O : Nat → Prop} {w : World} {p : Option Addr} {c : Nat} {l : List Kn} (h : RdE O w p c l) (hO : ∀ b, O b → b < w.heap.size) (hz : SzK l) :
    Calls Tryz.prog 20 #[.slice p l.length c] w fun x w' => RLevP w w' (rlevT l) x:=by
 obtain ⟨W0,hW0⟩ : ∃ W0,W0 = w.alloc (.cells #[.int .i64 0,.int .i64 0,.int .i64 0,.int .i64 0,.int .i64 0,.int .i64 0,.int .i64 0,.slice none 0 0,.slice none 0 0] 47):=⟨_,rfl⟩
 have hb0 : Below w.heap.size w W0:=by rw [hW0];exact (Below.refl _ _).alloc (Nat.le_refl _) _
 have hR0 : W0.heap[w.heap.size]? = some (.cells #[.int .i64 0,.int .i64 0,.int .i64 0,.int .i64 0,.int .i64 0,.int .i64 0,.int .i64 0,.slice none 0 0,.slice none 0 0] 47 (0,0)):=by rw [hW0];exact newP _
 have HSZ : Hid (w.heap.size + 1 ≤ W0.heap.size):=by show _ ≤ _;rw [hW0];simp
 have h0 : RdE O W0 p c l:=h.carry fun k hk => ⟨hk,hb0.block k (hO k hk)⟩
 have hO0 : ∀ b,O b → b < W0.heap.size:=fun b hb => Nat.lt_of_lt_of_le (hO b hb) hb0.size
 have hF:=rfind_any h0 hO0 hz.len tPower ⟨#[]⟩
 have HC : Hid (∀ X,Below W0.heap.size W0 X → Calls Tryz.prog 21 #[.slice p l.length c,.string tCreate,.string ⟨#[]⟩] X fun e w' => (∃ q,e = .returned (.tuple #[.agg (cellsK ((findT l tCreate ⟨#[]⟩).getD zK) q).toArray,.bool (findT l tCreate ⟨#[]⟩).isSome]) ∧ IsE O w' ((findT l tCreate ⟨#[]⟩).getD zK).2 q) ∧ Below X.heap.size X w'):=fun X hX => rfind_got (h0.carry fun k hk => ⟨hk,hX.block k (hO0 k hk)⟩) (fun b hb => Nat.lt_of_lt_of_le (hO0 b hb) hX.size) hz.len tCreate ⟨#[]⟩
 have HRB : Hid (∀ X,Below W0.heap.size W0 X → X.heap[w.heap.size]? = some (.cells #[.int .i64 0,.int .i64 0,.int .i64 0,.int .i64 0,.int .i64 0,.int .i64 0,.int .i64 0,.slice none 0 0,.slice none 0 0] 47 (0,0))):=fun X hX => (hX.block _ (objP_lt hR0)).trans hR0
 have HSP : Hid (szJ 13 ((findT l tPower ⟨#[]⟩).getD zK).2.content = true):=find_sz hz tPower ⟨#[]⟩
 unfold rlevT
 clear h h0 hR0 hz
 generalize findT l tPower ⟨#[]⟩ = f at hF HSP
 cases f with
 | none =>
  have hF0 : Calls Tryz.prog 21 #[.slice p l.length c,.string tPower,.string ⟨#[]⟩] W0 fun e w' => e = .returned (.tuple #[.agg (cellsK zK Pt.zero).toArray,.bool false]) ∧ Below W0.heap.size W0 w':=hF
  clear hF HSP
  generalize (findT l tCreate ⟨#[]⟩).isSome = cb at HC
  generalize (findT l tCreate ⟨#[]⟩).getD zK = cr at HC ⊢
  go_enter Tryz.func20,Tryz.ntmps20
  go_upto_region 1 with fail
  rw [← hW0]
  clear hW0
  go_upto_region 5 with (first
   | (go_at_call 21;refine hF0.mono ?_;rintro x w1 ⟨rfl,hb1⟩)
   | (refine wpList_store_row rfl 41 _ _ rfl w1.heap.size 41 _ (cellsK zK Pt.zero).toArray rfl rfl (newP _) infoK rfl (one_K zK Pt.zero) ?_))
  have hbA : Below w1.heap.size w1 ((w1.alloc (.cells (cellsK zK Pt.zero).toArray 41)).setRow w1.heap.size (cellsK zK Pt.zero).toArray) :=
   ((Below.refl _ _).alloc (Nat.le_refl _) _).trans ((keep_setRow _ w1.heap.size _).below (by simp) fun q hq e => by unfold OneP at e;omega)
  change Code.wp _ _ _ _ ((w1.alloc (.cells (cellsK zK Pt.zero).toArray 41)).setRow w1.heap.size (cellsK zK Pt.zero).toArray)
  generalize (w1.alloc (.cells (cellsK zK Pt.zero).toArray 41)).setRow w1.heap.size (cellsK zK Pt.zero).toArray = W1 at hbA
  have hB1:=belowP hb1 hbA
  go_upto_region 6 with (first
   | (go_at_call 21;refine (HC.out _ hB1).mono ?_;rintro x w2 ⟨⟨q,rfl,hq⟩,hb2⟩)
   | (refine wpList_store_row rfl 41 _ _ rfl w2.heap.size 41 _ (cellsK cr q).toArray rfl rfl (newP _) infoK rfl (one_K cr q) ?_))
  have hbC : Below w2.heap.size w2 ((w2.alloc (.cells (cellsK zK Pt.zero).toArray 41)).setRow w2.heap.size (cellsK cr q).toArray) :=
   ((Below.refl _ _).alloc (Nat.le_refl _) _).trans ((keep_setRow _ w2.heap.size _).below (by simp) fun q hq e => by unfold OneP at e;omega)
  have hX : ((w2.alloc (.cells (cellsK zK Pt.zero).toArray 41)).setRow w2.heap.size (cellsK cr q).toArray).heap[w2.heap.size]? = some (.cells (cellsK cr q).toArray 41 (0,0)):=setRow_heap _ _ _ _ _ _ (newP _)
  change Code.wp _ _ _ _ ((w2.alloc (.cells (cellsK zK Pt.zero).toArray 41)).setRow w2.heap.size (cellsK cr q).toArray)
  generalize (w2.alloc (.cells (cellsK zK Pt.zero).toArray 41)).setRow w2.heap.size (cellsK cr q).toArray = W2 at hbC hX
  have hB2:=belowP hB1 (belowP hb2 hbC)
  have es : W2.cell? ⟨w2.heap.size,3,none⟩ = some (.string cr.2.sender):=cellP hX 3 _ rfl
  have hS:=rstart_lv (w:=W2) cr.2.sender
  have HBX : Hid (∀ X,Below W2.heap.size W2 X → X.heap[w.heap.size]? = some (.cells #[.int .i64 0,.int .i64 0,.int .i64 0,.int .i64 0,.int .i64 0,.int .i64 0,.int .i64 0,.slice none 0 0,.slice none 0 0] 47 (0,0))):=fun X hX => HRB.out X (belowP hB2 hX)
  obtain ⟨L,HL⟩ : ∃ L,Hid (startL cr.2.sender = L):=⟨_,rfl⟩
  rw [HL.out] at hS
  unfold valL at hS
  go_wp2_with (first
   | (go_at_call 47;refine hS.mono ?_;rintro x w3 ⟨⟨r,rfl,hI⟩,hb3⟩;have hBX:=(show Hid _ from HBX.out _ hb3))
   | (refine wpList_store_row rfl 47 _ _ rfl w.heap.size 47 _ (cellsL L r).toArray rfl rfl hBX.out infoL rfl (one_L L r) ?_))
  refine bodyPost_ret (resultsP_cell_tmp rfl _ _ _ rfl (loadL_at (range_of (setRow_heap _ _ _ _ _ _ hBX.out)))) rfl ?_
  show RLevP _ _ (startL cr.2.sender,true) _
  rw [HL.out]
  have hbW : Below w.heap.size w w3:=belowP hb0 (belowP hB2 hb3)
  have hkk:=keep_setRow w3 w.heap.size (cellsL L r).toArray
  have s1:=HSZ.out
  have s2:=hB2.size
  refine ⟨⟨r,rfl,hI.carry fun b hb => ?_⟩,hbW.trans (hkk.below hbW.size fun k hk e => by unfold OneP at e;omega)⟩
  exact ⟨⟨by have:=hb.1;omega,Nat.lt_of_lt_of_le hb.2 hkk.size⟩,hkk.block b hb.2 (by unfold OneP;have:=hb.1;omega)⟩
 | some k =>
  have hF0 : Calls Tryz.prog 21 #[.slice p l.length c,.string tPower,.string ⟨#[]⟩] W0 fun e w' => (∃ q,e = .returned (.tuple #[.agg (cellsK k q).toArray,.bool true]) ∧ IsE O w' k.2 q) ∧ Below W0.heap.size W0 w':=hF
  clear hF HC
  have HE : Hid ((rparseT k.2.content).2 = 0 ∨ (rparseT k.2.content).2 = 1):=rparse_err _
  go_enter Tryz.func20,Tryz.ntmps20
  go_upto_region 1 with fail
  rw [← hW0]
  clear hW0
  go_upto_region 3 with (first
   | (go_at_call 21;refine hF0.mono ?_;rintro x w1 ⟨⟨q,rfl,hq⟩,hb1⟩)
   | (refine wpList_store_row rfl 41 _ _ rfl w1.heap.size 41 _ (cellsK k q).toArray rfl rfl (newP _) infoK rfl (one_K k q) ?_))
  have hbA : Below w1.heap.size w1 ((w1.alloc (.cells (cellsK zK Pt.zero).toArray 41)).setRow w1.heap.size (cellsK k q).toArray) :=
   ((Below.refl _ _).alloc (Nat.le_refl _) _).trans ((keep_setRow _ w1.heap.size _).below (by simp) fun q hq e => by unfold OneP at e;omega)
  have hX : ((w1.alloc (.cells (cellsK zK Pt.zero).toArray 41)).setRow w1.heap.size (cellsK k q).toArray).heap[w1.heap.size]? = some (.cells (cellsK k q).toArray 41 (0,0)):=setRow_heap _ _ _ _ _ _ (newP _)
  change Code.wp _ _ _ _ ((w1.alloc (.cells (cellsK zK Pt.zero).toArray 41)).setRow w1.heap.size (cellsK k q).toArray)
  generalize (w1.alloc (.cells (cellsK zK Pt.zero).toArray 41)).setRow w1.heap.size (cellsK k q).toArray = W1 at hbA hX
  have hB1:=belowP hb1 hbA
  have HR : Hid (W1.rangeAt w1.heap.size 6 [.int .i64 k.2.content.kind,.int .i64 k.2.content.int,.string k.2.content.text,.slice q.pk k.2.content.keys.length q.ck,.slice q.pl k.2.content.list.length q.cl]):=range_sub hX 6 rfl
  have hE1 : IsE O W1 k.2 q:=hq.carry fun x hx => ⟨hx,hbA.block x (Nat.lt_of_lt_of_le (hO0 x hx) hb1.size)⟩
  have hP:=rParse_any (O:=O) (w:=W1) (c:=k.2.content) hE1.cont (fun b hb => Nat.lt_of_lt_of_le (hO0 b hb) hB1.size) HSP.out
  have HBX : Hid (∀ X,Below W1.heap.size W1 X → X.heap[w.heap.size]? = some (.cells #[.int .i64 0,.int .i64 0,.int .i64 0,.int .i64 0,.int .i64 0,.int .i64 0,.int .i64 0,.slice none 0 0,.slice none 0 0] 47 (0,0))):=fun X hX => HRB.out X (belowP hB1 hX)
  clear hX hq hE1 HSP HRB
  obtain ⟨R,HRR⟩ : ∃ R,Hid (rparseT k.2.content = R):=⟨_,rfl⟩
  rw [HRR.out] at hP HE
  obtain ⟨L,E⟩:=R
  simp only at HE
  unfold ParP valL at hP
  simp only at hP
  go_upto_region 4 with (first
   | (refine wpList_load_mid rfl 25 _ rfl w1.heap.size 6 rfl _ _ HR.out Tryz.underlying25 rfl (by kernel_rfl) ?_)
   | (go_at_call 46;refine hP.mono ?_;rintro x w2 ⟨⟨r,rfl,hI⟩,hb2⟩)
   | (refine wpList_store_row rfl 47 _ _ rfl w2.heap.size 47 _ (cellsL L r).toArray rfl rfl (newP _) infoL rfl (one_L L r) ?_))
  have hbC : Below w2.heap.size w2 ((w2.alloc (.cells #[.int .i64 0,.int .i64 0,.int .i64 0,.int .i64 0,.int .i64 0,.int .i64 0,.int .i64 0,.slice none 0 0,.slice none 0 0] 47)).setRow w2.heap.size (cellsL L r).toArray) :=
   ((Below.refl _ _).alloc (Nat.le_refl _) _).trans ((keep_setRow _ w2.heap.size _).below (by simp) fun q hq e => by unfold OneP at e;omega)
  have hXC : ((w2.alloc (.cells #[.int .i64 0,.int .i64 0,.int .i64 0,.int .i64 0,.int .i64 0,.int .i64 0,.int .i64 0,.slice none 0 0,.slice none 0 0] 47)).setRow w2.heap.size (cellsL L r).toArray).heap[w2.heap.size]? = some (.cells (cellsL L r).toArray 47 (0,0)):=setRow_heap _ _ _ _ _ _ (newP _)
  generalize (w2.alloc (.cells #[.int .i64 0,.int .i64 0,.int .i64 0,.int .i64 0,.int .i64 0,.int .i64 0,.int .i64 0,.slice none 0 0,.slice none 0 0] 47)).setRow w2.heap.size (cellsL L r).toArray = W2 at hbC hXC
  have HRC : Hid (W2.rangeAt w2.heap.size 0 (cellsL L r)):=range_of hXC
  have hB2:=belowP hb2 hbC
  have hBX:=(show Hid _ from HBX.out _ hB2)
  clear hXC HBX
  have fin : ∀ b : Bool,RLevP w (W2.setRow w.heap.size (cellsL L r).toArray) (L,b) (.returned (.tuple #[.agg (cellsL L r).toArray,.bool b])):=fun b => by
   have hbW : Below w.heap.size w W2:=belowP hb0 (belowP hB1 hB2)
   have hkk:=keep_setRow W2 w.heap.size (cellsL L r).toArray
   have s1:=HSZ.out
   have s2:=hB1.size
   refine ⟨⟨r,rfl,hI.carry fun b hb => ?_⟩,hbW.trans (hkk.below hbW.size fun k hk e => by unfold OneP at e;omega)⟩
   exact ⟨⟨by have:=hb.1;omega,Nat.lt_of_lt_of_le (Nat.lt_of_lt_of_le hb.2 hbC.size) hkk.size⟩,(hkk.block b (Nat.lt_of_lt_of_le hb.2 hbC.size) (by unfold OneP;have:=hb.1;omega)).trans (hbC.block b hb.2)⟩
  rcases HE.out with rfl | rfl
  · go_wp2_with (first
      | (refine wpList_load_mid rfl 47 _ rfl w2.heap.size 0 rfl (cellsL L r) _ HRC.out Tryz.underlying47 rfl infoL ?_)
      | (refine wpList_store_row rfl 47 _ _ rfl w.heap.size 47 _ (cellsL L r).toArray rfl rfl hBX.out infoL rfl (one_L L r) ?_))
    refine bodyPost_ret (resultsP_cell_tmp rfl _ _ _ rfl (loadL_at (range_of (setRow_heap _ _ _ _ _ _ hBX.out)))) rfl ?_
    show RLevP _ _ ((rparseT k.2.content).1,decide ((rparseT k.2.content).2 = 0)) _
    rw [HRR.out]
    exact fin true
  · go_wp2_with (first
      | (refine wpList_load_mid rfl 47 _ rfl w2.heap.size 0 rfl (cellsL L r) _ HRC.out Tryz.underlying47 rfl infoL ?_)
      | (refine wpList_store_row rfl 47 _ _ rfl w.heap.size 47 _ (cellsL L r).toArray rfl rfl hBX.out infoL rfl (one_L L r) ?_))
    refine bodyPost_ret (resultsP_cell_tmp rfl _ _ _ rfl (loadL_at (range_of (setRow_heap _ _ _ _ _ _ hBX.out)))) rfl ?_
    show RLevP _ _ ((rparseT k.2.content).1,decide ((rparseT k.2.content).2 = 0)) _
    rw [HRR.out]
    exact fin false
theorem lev_same {e : Ev} {l : List Kn} {H : Hr} (h : openT e l = some H) : rlevT l = (H.l,true):=by
 unfold openT at h
 split at h
 · cases h
 · rename_i c hc
   split at h
   · split at h
     · cases h
     · rename_i v hv
       cases h
       unfold levT at hv
       unfold rlevT
       split at hv
       · rename_i k hk
         rw [hk]
         simp only [parse_same] at hv
         split at hv
         · rename_i h0
           cases hv
           simp only [h0,decide_true]
         · cases hv
       · rename_i hk
         rw [hk]
         cases hv
         simp only [hc,Option.getD_some]
   · cases h
theorem eqT_flip (a b : ByteArray) : eqT a b = eqT b a:=by
 unfold eqT
 cases h : a.toList == b.toList with
 | true => rw [eq_of_beq h];exact (beq_self_eq_true _).symm
 | false =>
  cases h2 : b.toList == a.toList with
  | true => rw [eq_of_beq h2,beq_self_eq_true] at h;cases h
  | false => rfl
theorem eqT_other {m a b : ByteArray} (h1 : eqT m a = true) (h2 : (a.toList == b.toList) = false) : eqT m b = false:=by
 unfold eqT at h1 ⊢
 rw [eq_of_beq h1];exact h2
theorem open_c {e : Ev} {l : List Kn} {H : Hr} (h : openT e l = some H) : findT l tCreate ⟨#[]⟩ = some (H.cn,H.ce):=by
 unfold openT at h
 split at h
 · cases h
 · rename_i c hc
   split at h
   · split at h
     · cases h
     · cases h
       exact hc
   · cases h
theorem banned_law {e : Ev} {l : List Kn} (hj : judgeT e l = 0) (hm : eqT e.typ tMember = true) (hb : eqT (membT l e.key) vBan = true) : ∃ H, openT e l = some H ∧ rlevT l = (H.l, true) ∧ findT l tCreate ⟨#[]⟩ = some (H.cn, H.ce) ∧
    ((eqT (textT e.content nMemb) vJoin = true ∧ e.prev.length = 1 ∧ eqT (e.prev.getD 0 nix) H.cn = true ∧ eqT e.sender H.ce.sender = true) ∨
     (eqT (textT e.content nMemb) vLeave = true ∧ eqT e.key e.sender = false ∧ H.l.ban ≤ usr H.l e.sender) ∨
     (eqT (textT e.content nMemb) vBan = true ∧ usr H.l e.key < usr H.l e.sender)):=by
 obtain ⟨H,ho,ha,he,hl⟩:=ask_open hj (eqT_other hm (by rw [lit_tMember,lit_tCreate];rfl))
 refine ⟨H,ho,lev_same ho,open_c ho,?_⟩
 have ht : eqT H.target vBan = true:=by unfold Hr.target;rw [he,hl];exact hb
 have t1 : eqT H.target vJoin = false:=eqT_other ht (by rw [lit_vBan,lit_vJoin];rfl)
 have t2 : eqT H.target vInvite = false:=eqT_other ht (by rw [lit_vBan,lit_vInvite];rfl)
 unfold Hr.ask at ha
 rw [he,hm,if_pos rfl] at ha
 unfold Hr.member at ha
 rw [he] at ha
 simp only [Bool.and_eq_true] at ha
 obtain ⟨_,ha⟩:=ha
 generalize textT e.content nMemb = m at ha ⊢
 cases h1 : eqT m vJoin with
 | true =>
  rw [h1,if_pos rfl] at ha
  unfold Hr.joins Hr.alone at ha
  rw [ht,he] at ha
  simp only [Bool.and_eq_true,Bool.or_eq_true,Bool.not_true,Bool.false_eq_true,false_and,or_false,decide_eq_true_eq] at ha
  obtain ⟨_,⟨h3,h4⟩,h5⟩:=ha
  exact .inl ⟨rfl,h3,h4,by rw [eqT_flip];exact h5⟩
 | false =>
  rw [h1,if_neg (by decide)] at ha
  cases h2 : eqT m vInvite with
  | true =>
   rw [h2,if_pos rfl] at ha
   unfold Hr.invites at ha
   rw [ht] at ha
   simp only [Bool.and_eq_true,Bool.not_true,Bool.false_eq_true,false_and,and_false] at ha
  | false =>
   rw [h2,if_neg (by decide)] at ha
   cases h3 : eqT m vLeave with
   | true =>
    rw [h3,if_pos rfl] at ha
    unfold Hr.leaves at ha
    cases hw : H.own with
    | true =>
     rw [hw,if_pos rfl,t1,t2] at ha
     cases ha
    | false =>
     rw [hw,if_neg (by decide),ht] at ha
     unfold Hr.own at hw
     unfold Hr.s at ha
     rw [he] at hw ha
     simp only [Bool.and_eq_true,Bool.true_and,Bool.not_eq_true',decide_eq_false_iff_not,Int.not_lt] at ha
     exact .inr (.inl ⟨rfl,hw,ha.2.1⟩)
   | false =>
    rw [h3,if_neg (by decide)] at ha
    cases h4 : eqT m vBan with
    | true =>
     rw [h4,if_pos rfl] at ha
     unfold Hr.bans Hr.t Hr.s at ha
     rw [he] at ha
     simp only [Bool.and_eq_true,decide_eq_true_eq] at ha
     exact .inr (.inr ⟨rfl,ha.2.2⟩)
    | false =>
     rw [h4,if_neg (by decide)] at ha
     cases ha
theorem banned_any {O : Nat → Prop} {w : World} {e : Ev} {p : Pt} {ps : Option Addr} {cs : Nat} {l : List Kn} (h : IsE O w e p) (hst : RdE O w ps cs l) (hO : ∀ b, O b → b < w.heap.size) (hz : BigE e) (hk : ∀ k ∈ l, BigE k.2) (hT : Tabs w) :
    Calls Tryz.prog 8 #[valE e p,.slice ps l.length cs] w fun x w' => x = .returned (.bool true) ∧ Below w.heap.size w w':=by
 obtain ⟨W0,hW0⟩ : ∃ W0,W0 = w.alloc (.cells (cellsE e p).toArray 28):=⟨_,rfl⟩
 have hb0 : Below w.heap.size w W0:=by rw [hW0];exact (Below.refl _ _).alloc (Nat.le_refl _) _
 have hX0 : W0.heap[w.heap.size]? = some (.cells (cellsE e p).toArray 28 (0,0)):=by rw [hW0];exact newP _
 have hV:=isV_new h hO hb0 hX0
 have HV : Hid (∀ X,Below W0.heap.size W0 X → IsV X w.heap.size e p):=fun X hX => hV.below hX
 have HST : Hid (∀ X,Below W0.heap.size W0 X → RdE (· < X.heap.size) X ps cs l):=fun X hX => hst.carry fun k hk => ⟨Nat.lt_of_lt_of_le (hO k hk) (belowP hb0 hX).size,(belowP hb0 hX).block k (hO k hk)⟩
 have HLD : Hid (∀ X,Below W0.heap.size W0 X → (Instr.loadAt 28 (.pointer (some ⟨w.heap.size,0,none⟩))).run Tryz.prog X = .ok (.agg (cellsE e p).toArray) X):=fun X hX => run_loadAt_mid X w.heap.size 0 28 (cellsE e p) _ (HV.out X hX).rangeE Tryz.underlying28 rfl infoE
 have hFew:=eFew_any e p W0 hV.ev (fun _ h => h) hz
 have HK : Hid (∀ X,Below W0.heap.size W0 X → Calls Tryz.prog 10 #[.slice ps l.length cs] X fun x w' => FewKP X w' l x):=fun X hX => few11_any (HST.out X hX) (fun _ h => h) hk
 have HJ : Hid (∀ X,Below W0.heap.size W0 X → FewE e → FewK l → Calls Tryz.prog 11 #[.agg (cellsE e p).toArray,.slice ps l.length cs] X fun x w' => x = .returned (.int .i64 (judgeT e l)) ∧ Below X.heap.size X w'):=fun X hX h1 h2 => judge_any (HV.out X hX).ev (HST.out X hX) (fun _ h => h) h1.sz h2.sz (hT.below (belowP hb0 hX))
 have HMB : Hid (∀ X,Below W0.heap.size W0 X → FewK l → Calls Tryz.prog 18 #[.slice ps l.length cs,.string e.key] X fun x w' => x = .returned (.string (membT l e.key)) ∧ Below X.heap.size X w'):=fun X hX h2 => rmember_any (HST.out X hX) (fun _ h => h) h2.sz e.key
 have HAW : Hid (∀ X,Below W0.heap.size W0 X → Calls Tryz.prog 13 #[] X fun x w' => x = .returned (.bool true) ∧ Below X.heap.size X w'):=fun X hX => awake11_any X (hT.below (belowP hb0 hX))
 have HLAW : Hid (judgeT e l = 0 → eqT e.typ tMember = true → eqT (membT l e.key) vBan = true → ∃ H,openT e l = some H ∧ rlevT l = (H.l,true) ∧ findT l tCreate ⟨#[]⟩ = some (H.cn,H.ce) ∧ ((eqT (textT e.content nMemb) vJoin = true ∧ e.prev.length = 1 ∧ eqT (e.prev.getD 0 nix) H.cn = true ∧ eqT e.sender H.ce.sender = true) ∨ (eqT (textT e.content nMemb) vLeave = true ∧ eqT e.key e.sender = false ∧ H.l.ban ≤ usr H.l e.sender) ∨ (eqT (textT e.content nMemb) vBan = true ∧ usr H.l e.key < usr H.l e.sender))):=banned_law
 have hB0 : Below W0.heap.size W0 W0:=Below.refl _ _
 clear h hst hV hX0 hz hk hT
 unfold valE at hFew ⊢
 unfold eqT at HLAW
 rw [lit_tMember,lit_vBan,lit_vJoin,lit_vLeave] at HLAW
 generalize judgeT e l = jt at HJ HLAW
 generalize membT l e.key = mb at HMB HLAW
 cases hc : (e.typ.toList == [109,46,114,111,111,109,46,109,101,109,98,101,114]) with
 | false =>
  have hc2 : (e.typ.toList != [109,46,114,111,111,109,46,109,101,109,98,101,114]) = true:=by rw [bne,hc];rfl
  clear HLAW HJ HMB
  go_enter Tryz.func8,Tryz.ntmps8
  go_upto_region 1 with fail
  rw [← hW0]
  clear hW0
  go_wp2_with (first
   | (go_at_call 9;refine hFew.mono ?_;rintro x w1 ⟨⟨b1,rfl,hf1⟩,hB1⟩;cases b1;have hN1:=hB1;clear hB1)
   | (go_at_call 10;refine (HK.out _ hB1).mono ?_;rintro x w2 ⟨⟨b2,rfl,hf2⟩,hb2⟩;have hB2:=belowP hB1 hb2;clear hb2;have et:=(HV.out _ hB2).typ;have ek:=(HV.out _ hB2).key;cases b2;have hN2:=hB2;clear hB2)
   | (refine wpList_load_midg (by kernel_rfl) 28 _ rfl w.heap.size 0 rfl (cellsE e p) (HLD.out _ hB0) ?_)
   | (go_at_call 13;refine (HAW.out _ hB2).mono ?_;rintro x w9 ⟨rfl,hb9⟩;have hB9:=belowP hB2 hb9)
   | (go_at_call 13;refine (HAW.out _ hN2).mono ?_;rintro x w9 ⟨rfl,hb9⟩;have hB9:=belowP hN2 hb9)
   | (go_at_call 13;refine (HAW.out _ hN1).mono ?_;rintro x w9 ⟨rfl,hb9⟩;have hB9:=belowP hN1 hb9))
  all_goals (go_ret;exact ⟨rfl,belowP hb0 hB9⟩)
 | true =>
  have hc2 : (e.typ.toList != [109,46,114,111,111,109,46,109,101,109,98,101,114]) = false:=by rw [bne,hc];rfl
  cases hmb : (mb.toList == [98,97,110]) with
  | false =>
   have hmb2 : (mb.toList != [98,97,110]) = true:=by rw [bne,hmb];rfl
   clear HLAW HJ
   go_enter Tryz.func8,Tryz.ntmps8
   go_upto_region 1 with fail
   rw [← hW0]
   clear hW0
   go_wp2_with (first
    | (go_at_call 9;refine hFew.mono ?_;rintro x w1 ⟨⟨b1,rfl,hf1⟩,hB1⟩;cases b1;have hN1:=hB1;clear hB1)
    | (go_at_call 10;refine (HK.out _ hB1).mono ?_;rintro x w2 ⟨⟨b2,rfl,hf2⟩,hb2⟩;have hB2:=belowP hB1 hb2;clear hb2;have et:=(HV.out _ hB2).typ;have ek:=(HV.out _ hB2).key;cases b2;have hN2:=hB2;clear hB2)
    | (go_at_call 18;refine (HMB.out _ hB2 (hf2 (by trivial))).mono ?_;rintro x wm ⟨rfl,hbm⟩;have hBm:=belowP hB2 hbm;clear hbm)
    | (refine wpList_load_midg (by kernel_rfl) 28 _ rfl w.heap.size 0 rfl (cellsE e p) (HLD.out _ hB0) ?_)
    | (go_at_call 13;refine (HAW.out _ hBm).mono ?_;rintro x w9 ⟨rfl,hb9⟩;have hB9:=belowP hBm hb9)
    | (go_at_call 13;refine (HAW.out _ hB2).mono ?_;rintro x w9 ⟨rfl,hb9⟩;have hB9:=belowP hB2 hb9)
    | (go_at_call 13;refine (HAW.out _ hN2).mono ?_;rintro x w9 ⟨rfl,hb9⟩;have hB9:=belowP hN2 hb9)
    | (go_at_call 13;refine (HAW.out _ hN1).mono ?_;rintro x w9 ⟨rfl,hb9⟩;have hB9:=belowP hN1 hb9))
   all_goals (go_ret;exact ⟨rfl,belowP hb0 hB9⟩)
  | true =>
   have hmb2 : (mb.toList != [98,97,110]) = false:=by rw [bne,hmb];rfl
   by_cases hj : jt = 0
   · subst hj
     obtain ⟨H,ho,hlev,hfc,hlaw⟩:=HLAW.out rfl hc hmb
     clear HLAW
     have HO : Hid (openT e l = some H):=ho
     have HSZ : Hid (FewE e → FewK l → SzL H.l):=fun h1 h2 => (open_sz h1.sz h2.sz HO.out).l
     clear ho HO
     have HLV : Hid (∀ X,Below W0.heap.size W0 X → FewK l → Calls Tryz.prog 20 #[.slice ps l.length cs] X fun x w' => (∃ q,x = .returned (.tuple #[.agg (cellsL H.l q).toArray,.bool true]) ∧ IsL (fun b => X.heap.size ≤ b ∧ b < w'.heap.size) w' H.l q) ∧ Below X.heap.size X w'):=fun X hX h2 => by
      have hh:=rlevels_any (HST.out X hX) (fun _ h => h) h2.sz
      rw [hlev] at hh
      exact hh
     clear hlev
     obtain ⟨c,hc0⟩ : ∃ c : Kn,c = (H.cn,H.ce):=⟨_,rfl⟩
     rw [← hc0] at hfc
     have HF0 : Hid (∀ X,Below W0.heap.size W0 X → FewK l → Calls Tryz.prog 21 #[.slice ps l.length cs,.string tCreate,.string ⟨#[]⟩] X fun x w' => (∃ q,x = .returned (.tuple #[.agg (cellsK c q).toArray,.bool true]) ∧ IsE (· < X.heap.size) w' c.2 q) ∧ Below X.heap.size X w'):=fun X hX h2 => by
      have hh:=rfind_any (HST.out X hX) (fun _ h => h) h2.sz.len tCreate ⟨#[]⟩
      rw [hfc] at hh
      exact hh
     clear hfc
     have hcn : H.cn = c.1:=by rw [hc0]
     have hce : H.ce.sender = c.2.sender:=by rw [hc0]
     rw [hcn,hce] at hlaw
     clear hc0 hcn hce
     generalize H.l = v at hlaw HSZ HLV
     have HM : Hid _:=hlaw
     clear hlaw
     go_enter Tryz.func8,Tryz.ntmps8
     go_upto_region 1 with fail
     rw [← hW0]
     clear hW0
     go_upto_region 4 with (first
      | (go_at_call 9;refine hFew.mono ?_;rintro x w1 ⟨⟨b1,rfl,hf1⟩,hB1⟩;cases b1;have hN1:=hB1;clear hB1)
      | (go_at_call 10;refine (HK.out _ hB1).mono ?_;rintro x w2 ⟨⟨b2,rfl,hf2⟩,hb2⟩;have hB2:=belowP hB1 hb2;clear hb2;have et:=(HV.out _ hB2).typ;have ek:=(HV.out _ hB2).key;cases b2;have hN2:=hB2;clear hB2)
      | (go_at_call 18;refine (HMB.out _ hB2 (hf2 (by trivial))).mono ?_;rintro x wm ⟨rfl,hbm⟩;have hBm:=belowP hB2 hbm;clear hbm)
      | (go_at_call 11;refine (HJ.out _ hBm (hf1 (by trivial)) (hf2 (by trivial))).mono ?_;rintro x w3 ⟨rfl,hb3⟩;have hB3:=belowP hBm hb3;clear hb3)
      | (go_at_call 20;refine (HLV.out _ hB3 (hf2 (by trivial))).mono ?_;rintro x w4 ⟨⟨q,rfl,hq⟩,hb4⟩;have hB4:=belowP hB3 hb4;clear hb4)
      | (refine wpList_store_row rfl 47 _ _ rfl w4.heap.size 47 _ (cellsL v q).toArray rfl rfl (newP _) infoL rfl (one_L v q) ?_)
      | (refine wpList_load_midg (by kernel_rfl) 28 _ rfl w.heap.size 0 rfl (cellsE e p) (HLD.out _ hBm) ?_)
      | (refine wpList_load_midg (by kernel_rfl) 28 _ rfl w.heap.size 0 rfl (cellsE e p) (HLD.out _ hB0) ?_)
      | (go_at_call 13;refine (HAW.out _ hN2).mono ?_;rintro x w9 ⟨rfl,hb9⟩;have hB9:=belowP hN2 hb9)
      | (go_at_call 13;refine (HAW.out _ hN1).mono ?_;rintro x w9 ⟨rfl,hb9⟩;have hB9:=belowP hN1 hb9))
     iterate 2
      · go_ret
        exact ⟨rfl,belowP hb0 hB9⟩
     · skip
       have hbA : Below w4.heap.size w4 ((w4.alloc (.cells #[.int .i64 0,.int .i64 0,.int .i64 0,.int .i64 0,.int .i64 0,.int .i64 0,.int .i64 0,.slice none 0 0,.slice none 0 0] 47)).setRow w4.heap.size (cellsL v q).toArray) :=
        ((Below.refl _ _).alloc (Nat.le_refl _) _).trans ((keep_setRow _ w4.heap.size _).below (by simp) fun q hq e => by unfold OneP at e;omega)
       have hX : ((w4.alloc (.cells #[.int .i64 0,.int .i64 0,.int .i64 0,.int .i64 0,.int .i64 0,.int .i64 0,.int .i64 0,.slice none 0 0,.slice none 0 0] 47)).setRow w4.heap.size (cellsL v q).toArray).heap[w4.heap.size]? = some (.cells (cellsL v q).toArray 47 (0,0)):=setRow_heap _ _ _ _ _ _ (newP _)
       change Code.wp _ _ _ _ ((w4.alloc (.cells #[.int .i64 0,.int .i64 0,.int .i64 0,.int .i64 0,.int .i64 0,.int .i64 0,.int .i64 0,.slice none 0 0,.slice none 0 0] 47)).setRow w4.heap.size (cellsL v q).toArray)
       generalize ((w4.alloc (.cells #[.int .i64 0,.int .i64 0,.int .i64 0,.int .i64 0,.int .i64 0,.int .i64 0,.int .i64 0,.slice none 0 0,.slice none 0 0] 47)).setRow w4.heap.size (cellsL v q).toArray) = W5 at hbA hX
       have hB5:=belowP hB4 hbA
       have HF : Hid (∀ X,Below W5.heap.size W5 X → FewK l → Calls Tryz.prog 21 #[.slice ps l.length cs,.string tCreate,.string ⟨#[]⟩] X fun x w' => (∃ q,x = .returned (.tuple #[.agg (cellsK c q).toArray,.bool true]) ∧ IsE (· < X.heap.size) w' c.2 q) ∧ Below X.heap.size X w'):=fun X hb h2 => HF0.out X (belowP hB5 hb) h2
       have hC0 : Below W5.heap.size W5 W5:=Below.refl _ _
       go_upto_region 5 with (first
        | (go_at_call 21;refine (HF.out _ hC0 (hf2 (by trivial))).mono ?_;rintro x w6 ⟨⟨r,rfl,_⟩,hC6⟩)
        | (refine wpList_store_row rfl 41 _ _ rfl w6.heap.size 41 _ (cellsK c r).toArray rfl rfl (newP _) infoK rfl (one_K c r) ?_))
       have hbK : Below w6.heap.size w6 ((w6.alloc (.cells (cellsK zK Pt.zero).toArray 41)).setRow w6.heap.size (cellsK c r).toArray) :=
        ((Below.refl _ _).alloc (Nat.le_refl _) _).trans ((keep_setRow _ w6.heap.size _).below (by simp) fun q hq e => by unfold OneP at e;omega)
       have hXK : ((w6.alloc (.cells (cellsK zK Pt.zero).toArray 41)).setRow w6.heap.size (cellsK c r).toArray).heap[w6.heap.size]? = some (.cells (cellsK c r).toArray 41 (0,0)):=setRow_heap _ _ _ _ _ _ (newP _)
       change Code.wp _ _ _ _ ((w6.alloc (.cells (cellsK zK Pt.zero).toArray 41)).setRow w6.heap.size (cellsK c r).toArray)
       generalize ((w6.alloc (.cells (cellsK zK Pt.zero).toArray 41)).setRow w6.heap.size (cellsK c r).toArray) = W7 at hbK hXK
       have hC7:=belowP hC6 hbK
       have hB7:=belowP hB5 hC7
       have hE0 : Below W7.heap.size W7 W7:=Below.refl _ _
       have HTx : Hid (∀ X,Below W7.heap.size W7 X → Calls Tryz.prog 19 #[.agg (cellsE e p).toArray,.string nMemb] X fun x w' => x = .returned (.string (textT e.content nMemb)) ∧ Below X.heap.size X w'):=fun X hb => rtext_any (HV.out X (belowP hB7 hb)).ev (fun _ h => h) (sz_less 13 20 _ (by decide) (hf1 (by trivial)).cont) nMemb
       generalize textT e.content nMemb = m at HM HTx
       go_upto_region 6 with (first
        | (go_at_call 19;refine (HTx.out _ hE0).mono ?_;rintro x W ⟨rfl,hE8⟩)
        | (refine wpList_load_midg (by kernel_rfl) 28 _ rfl w.heap.size 0 rfl (cellsE e p) (HLD.out _ hB7) ?_))
       have hBW:=belowP hB7 hE8
       have hsz : SzL v:=HSZ.out (hf1 (by trivial)) (hf2 (by trivial))
       have HX : Hid (∀ X,Below W.heap.size W X → IsV X w.heap.size e p):=fun X hb => HV.out X (belowP hBW hb)
       have HXL : Hid (∀ X,Below W.heap.size W X → X.heap[w4.heap.size]? = some (.cells (cellsL v q).toArray 47 (0,0))):=fun X hb => ((belowP hC7 (belowP hE8 hb)).block _ (objP_lt hX)).trans hX
       have HXK : Hid (∀ X,Below W.heap.size W X → X.heap[w6.heap.size]? = some (.cells (cellsK c r).toArray 41 (0,0))):=fun X hb => ((belowP hE8 hb).block _ (objP_lt hXK)).trans hXK
       have HI : Hid (∀ X,Below W.heap.size W X → IsL (· < X.heap.size) X v q):=fun X hb => hq.carry fun b hb2 => ⟨Nat.lt_of_lt_of_le hb2.2 (belowP hbA (belowP hC7 (belowP hE8 hb))).size,(belowP hbA (belowP hC7 (belowP hE8 hb))).block b hb2.2⟩
       have HLL : Hid (∀ X,Below W.heap.size W X → (Instr.loadAt 47 (.pointer (some ⟨w4.heap.size,0,none⟩))).run Tryz.prog X = .ok (.agg (cellsL v q).toArray) X):=fun X hb => run_loadAt_mid X w4.heap.size 0 47 (cellsL v q) _ (range_of (HXL.out X hb)) Tryz.underlying47 rfl infoL
       have HBN : Hid (∀ X,Below W.heap.size W X → X.cell? ⟨w4.heap.size,0,none⟩ = some (.int .i64 v.ban)):=fun X hb => cellP (HXL.out X hb) 0 _ rfl
       have HCN : Hid (∀ X,Below W.heap.size W X → X.cell? ⟨w6.heap.size,0,none⟩ = some (.string c.1)):=fun X hb => cellP (HXK.out X hb) 0 _ rfl
       have HCS : Hid (∀ X,Below W.heap.size W X → X.cell? ⟨w6.heap.size,3,none⟩ = some (.string c.2.sender)):=fun X hb => cellP (HXK.out X hb) 3 _ rfl
       have HUS : Hid (∀ X,Below W.heap.size W X → Calls Tryz.prog 22 #[.agg (cellsL v q).toArray,.string e.sender] X fun x w' => x = .returned (.int .i64 (usr v e.sender)) ∧ Below X.heap.size X w'):=fun X hb => ruser_lv (HI.out X hb) (fun _ h => h) hsz e.sender
       have HUK : Hid (∀ X,Below W.heap.size W X → Calls Tryz.prog 22 #[.agg (cellsL v q).toArray,.string e.key] X fun x w' => x = .returned (.int .i64 (usr v e.key)) ∧ Below X.heap.size X w'):=fun X hb => ruser_lv (HI.out X hb) (fun _ h => h) hsz e.key
       have HAV : Hid (∀ X,Below W.heap.size W X → Calls Tryz.prog 13 #[] X fun x w' => x = .returned (.bool true) ∧ Below X.heap.size X w'):=fun X hb => HAW.out X (belowP hBW hb)
       have HBW : Hid (∀ X,Below W.heap.size W X → Below w.heap.size w X):=fun X hb => belowP hb0 (belowP hBW hb)
       have hpr:=(HX.out W (Below.refl _ _)).ev.prev
       clear et ek hX hXK hq HI hsz HSZ HLV HJ HK HST HF HF0 HTx HMB HV HLD HAW hbA hbK hC6 hC7 hE8 hE0 hBW hB7 hB5 hB4 hB3 hBm
       generalize usr v e.sender = us at HM HUS
       generalize usr v e.key = uk at HM HUK
       generalize v.ban = vb at HM HBN
       rcases HM.out with ⟨hm,h1,h2,h3⟩ | ⟨hm,h2,h3⟩ | ⟨hm,h3⟩
       · clear HUS HUK HLL HBN
         obtain ⟨a,ha,_,hcl⟩:=hpr.2 0 (by omega)
         have hcap:=hpr.1
         have hpl : ∀ X,Below W.heap.size W X → X.cell? ⟨w.heap.size,10,none⟩ = some (.slice (some a) 1 p.cp):=fun X hb => by
          have:=(HX.out X hb).prev
          rw [h1,ha] at this
          exact this
         have HPL : Hid _:=hpl
         have e0 : a.add 0 = a:=by obtain ⟨b,o,s⟩:=a;unfold Addr.add;split <;> simp_all
         rw [e0] at hcl
         have HP0 : Hid (∀ X,Below W.heap.size W X → X.cell? a = some (.string (e.prev.getD 0 nix))):=fun X hb => by
          obtain ⟨a2,ha2,_,hc2⟩:=(HX.out X hb).ev.prev.2 0 (by omega)
          rw [ha] at ha2
          obtain rfl : a = a2:=Option.some.inj ha2
          rw [e0] at hc2
          exact hc2
         rw [h1] at hcap
         clear hpr hcl ha hpl HM e0 h1
         generalize e.prev.getD 0 nix = u at HP0 h2
         go_upto_region 7 with fail
         refine wp_region_in (by kernel_rfl) (fun w' => Below W.heap.size W w') ?_
         change wpIn _ _ _ _ _ _ _ _ (World.drew _)
         have hD : Below W.heap.size W W.drew:=(Below.refl _ _).drew
         refine wpIn_tk (i:=0) (d:=some 50) rfl ?_
         refine wpIn_tp (i:=1) (d:=some 51) rfl (by (intro wq hq;have zf:=HPL.out wq hq;go_simp;first | done | with_reducible rfl)) ?_
         refine wpIn_tk (i:=2) (d:=some 52) rfl ?_
         refine wpIn_tk (i:=3) (d:=some 53) rfl ?_
         refine wpIn_tk (i:=4) (d:=some 54) rfl ?_
         refine wpIn_tk (i:=5) (d:=some 55) rfl ?_
         refine wpIn_tp (i:=6) (d:=some 56) rfl (by (intro wq hq;have zf:=HPL.out wq hq;go_simp;first | done | with_reducible rfl)) ?_
         refine wpIn_tk (i:=7) (d:=some 57) rfl ?_
         refine wpIn_tp (i:=8) (d:=some 58) rfl (by (intro wq hq;have zf:=HP0.out wq hq;go_simp;first | done | with_reducible rfl)) ?_
         refine wpIn_tk (i:=9) (d:=some 59) rfl ?_
         refine wpIn_tp (i:=10) (d:=some 60) rfl (by (intro wq hq;have zf:=HCN.out wq hq;go_simp;first | done | with_reducible rfl)) ?_
         refine wpIn_tk (i:=11) (d:=some 61) rfl ?_
         refine wpIn_tk (i:=12) (d:=some 62) rfl ?_
         refine wpIn_tk (i:=13) (d:=some 63) rfl ?_
         refine wpIn_tk (i:=14) (d:=some 64) rfl ?_
         refine wpIn_tp (i:=15) (d:=some 65) rfl (by (intro wq hq;have zf:=(HX.out wq hq).sender;go_simp;first | done | with_reducible rfl)) ?_
         refine wpIn_tk (i:=16) (d:=some 66) rfl ?_
         refine wpIn_tk (i:=17) (d:=some 67) rfl ?_
         refine wpIn_tp (i:=18) (d:=some 68) rfl (by (intro wq hq;have zf:=HCS.out wq hq;go_simp;first | done | with_reducible rfl)) ?_
         refine wpIn_tk (i:=19) (d:=some 69) rfl ?_
         refine wpIn_tk (i:=20) (d:=some 70) rfl ?_
         refine wpIn_tk (i:=21) (d:=some 71) rfl ?_
         refine wpIn_do (i:=22) hD (by kernel_rfl) rfl (by rfl) ?_
         intro K hK
         go_simp
         go_wp2_with (go_at_call 13;refine (HAV.out _ hD).mono ?_;rintro x w9 ⟨rfl,hbw9⟩)
         have hD22 : Below W.heap.size W w9:=belowP hD hbw9
         refine wpIn_tk (i:=23) (d:=some 73) rfl ?_
         refine wpIn_tk (i:=24) (d:=some 4) rfl ?_
         refine wpIn_done hD22 (by kernel_rfl) ?_ _
         go_wp2
         go_ret
         exact ⟨rfl,HBW.out _ hD22⟩
       · have n1 : (m.toList == [106,111,105,110]) = false:=by rw [eq_of_beq hm];rfl
         have n2 : (e.key.toList != e.sender.toList) = true:=by rw [bne,h2];rfl
         have n3 : decide (vb ≤ us) = true:=decide_eq_true h3
         clear HM hpr HUK HCN HCS
         go_upto_region 9 with fail
         refine wp_region_in (by kernel_rfl) (fun w' => Below W.heap.size W w') ?_
         change wpIn _ _ _ _ _ _ _ _ (World.drew _)
         have hD : Below W.heap.size W W.drew:=(Below.refl _ _).drew
         refine wpIn_tk (i:=0) (d:=some 76) rfl ?_
         refine wpIn_tk (i:=1) (d:=some 77) rfl ?_
         refine wpIn_tk (i:=2) (d:=some 78) rfl ?_
         refine wpIn_tp (i:=3) (d:=some 79) rfl (by (intro wq hq;have zf:=(HX.out wq hq).key;go_simp;first | done | with_reducible rfl)) ?_
         refine wpIn_tk (i:=4) (d:=some 80) rfl ?_
         refine wpIn_tp (i:=5) (d:=some 81) rfl (by (intro wq hq;have zf:=(HX.out wq hq).sender;go_simp;first | done | with_reducible rfl)) ?_
         refine wpIn_tk (i:=6) (d:=some 82) rfl ?_
         refine wpIn_tk (i:=7) (d:=some 83) rfl ?_
         refine wpIn_tk (i:=8) (d:=some 84) rfl ?_
         refine wpIn_take (i:=9) (d:=(some 85)) (v:=(.agg (cellsL v q).toArray)) (a':=?aql9) rfl rfl (by kernel_rfl) (by kernel_rfl) (by kernel_rfl) (fun _ _ _ h => h) (Or.inl ⟨by rfl,?yql9⟩) ?fql9 ?_
         case yql9 => exact fun wq hq => exec_loadR rfl rfl (HLL.out wq hq)
         case fql9 => (go_frame;rfl)
         refine wpIn_tk (i:=10) (d:=some 86) rfl ?_
         refine wpIn_tp (i:=11) (d:=some 87) rfl (by (intro wq hq;have zf:=(HX.out wq hq).sender;go_simp;first | done | with_reducible rfl)) ?_
         refine wpIn_tk (i:=13) (d:=some 89) rfl ?_
         refine wpIn_tp (i:=14) (d:=some 90) rfl (by (intro wq hq;have zf:=HBN.out wq hq;go_simp;first | done | with_reducible rfl)) ?_
         refine wpIn_do (i:=12) hD (by kernel_rfl) rfl (by rfl) ?_
         intro K hK
         go_simp
         go_wp2_with (go_at_call 22;refine (HUS.out _ hD).mono ?_;rintro x w8 ⟨rfl,hbw8⟩)
         have hD12 : Below W.heap.size W w8:=belowP hD hbw8
         refine wpIn_tk (i:=15) (d:=some 91) rfl ?_
         refine wpIn_tk (i:=16) (d:=some 92) rfl ?_
         refine wpIn_tk (i:=17) (d:=some 93) rfl ?_
         refine wpIn_do (i:=18) hD12 (by kernel_rfl) rfl (by rfl) ?_
         intro K hK
         go_simp
         go_wp2_with (go_at_call 13;refine (HAV.out _ hD12).mono ?_;rintro x w9 ⟨rfl,hbw9⟩)
         have hD1218 : Below W.heap.size W w9:=belowP hD12 hbw9
         refine wpIn_tk (i:=19) (d:=some 95) rfl ?_
         refine wpIn_tk (i:=20) (d:=some 4) rfl ?_
         refine wpIn_done hD1218 (by kernel_rfl) ?_ _
         go_wp2
         go_ret
         exact ⟨rfl,HBW.out _ hD1218⟩
       · have n1 : (m.toList == [106,111,105,110]) = false:=by rw [eq_of_beq hm];rfl
         have n2 : (m.toList == [108,101,97,118,101]) = false:=by rw [eq_of_beq hm];rfl
         have n3 : decide (uk < us) = true:=decide_eq_true h3
         clear HM hpr HCN HCS HBN
         go_upto_region 11 with fail
         refine wp_region_in (by kernel_rfl) (fun w' => Below W.heap.size W w') ?_
         change wpIn _ _ _ _ _ _ _ _ (World.drew _)
         have hD : Below W.heap.size W W.drew:=(Below.refl _ _).drew
         refine wpIn_tk (i:=0) (d:=some 98) rfl ?_
         refine wpIn_tk (i:=1) (d:=some 99) rfl ?_
         refine wpIn_take (i:=2) (d:=(some 100)) (v:=(.agg (cellsL v q).toArray)) (a':=?aqb2) rfl rfl (by kernel_rfl) (by kernel_rfl) (by kernel_rfl) (fun _ _ _ h => h) (Or.inl ⟨by rfl,?yqb2⟩) ?fqb2 ?_
         case yqb2 => exact fun wq hq => exec_loadR rfl rfl (HLL.out wq hq)
         case fqb2 => (go_frame;rfl)
         refine wpIn_tk (i:=3) (d:=some 101) rfl ?_
         refine wpIn_tp (i:=4) (d:=some 102) rfl (by (intro wq hq;have zf:=(HX.out wq hq).sender;go_simp;first | done | with_reducible rfl)) ?_
         refine wpIn_take (i:=6) (d:=(some 104)) (v:=(.agg (cellsL v q).toArray)) (a':=?aqb6) rfl rfl (by kernel_rfl) (by kernel_rfl) (by kernel_rfl) (fun _ _ _ h => h) (Or.inl ⟨by rfl,?yqb6⟩) ?fqb6 ?_
         case yqb6 => exact fun wq hq => exec_loadR rfl rfl (HLL.out wq hq)
         case fqb6 => (go_frame;rfl)
         refine wpIn_tk (i:=7) (d:=some 105) rfl ?_
         refine wpIn_tp (i:=8) (d:=some 106) rfl (by (intro wq hq;have zf:=(HX.out wq hq).key;go_simp;first | done | with_reducible rfl)) ?_
         refine wpIn_do (i:=5) hD (by kernel_rfl) rfl (by rfl) ?_
         intro K hK
         go_simp
         go_wp2_with (go_at_call 22;refine (HUS.out _ hD).mono ?_;rintro x w7 ⟨rfl,hbw7⟩)
         have hD5 : Below W.heap.size W w7:=belowP hD hbw7
         refine wpIn_do (i:=9) hD5 (by kernel_rfl) rfl (by rfl) ?_
         intro K hK
         go_simp
         go_wp2_with (go_at_call 22;refine (HUK.out _ hD5).mono ?_;rintro x w8 ⟨rfl,hbw8⟩)
         have hD59 : Below W.heap.size W w8:=belowP hD5 hbw8
         refine wpIn_tk (i:=10) (d:=some 108) rfl ?_
         refine wpIn_tk (i:=11) (d:=some 109) rfl ?_
         refine wpIn_tk (i:=12) (d:=some 110) rfl ?_
         refine wpIn_do (i:=13) hD59 (by kernel_rfl) rfl (by rfl) ?_
         intro K hK
         go_simp
         go_wp2_with (go_at_call 13;refine (HAV.out _ hD59).mono ?_;rintro x w9 ⟨rfl,hbw9⟩)
         have hD5913 : Below W.heap.size W w9:=belowP hD59 hbw9
         refine wpIn_tk (i:=14) (d:=some 112) rfl ?_
         refine wpIn_tk (i:=15) (d:=some 4) rfl ?_
         refine wpIn_done hD5913 (by kernel_rfl) ?_ _
         go_wp2
         go_ret
         exact ⟨rfl,HBW.out _ hD5913⟩
   · have hj1 : (jt == 0) = false:=by simpa using hj
     have hj2 : (jt != 0) = true:=by simpa using hj
     clear HLAW
     go_enter Tryz.func8,Tryz.ntmps8
     go_upto_region 1 with fail
     rw [← hW0]
     clear hW0
     go_wp2_with (first
      | (go_at_call 9;refine hFew.mono ?_;rintro x w1 ⟨⟨b1,rfl,hf1⟩,hB1⟩;cases b1;have hN1:=hB1;clear hB1)
      | (go_at_call 10;refine (HK.out _ hB1).mono ?_;rintro x w2 ⟨⟨b2,rfl,hf2⟩,hb2⟩;have hB2:=belowP hB1 hb2;clear hb2;have et:=(HV.out _ hB2).typ;have ek:=(HV.out _ hB2).key;cases b2;have hN2:=hB2;clear hB2)
      | (go_at_call 18;refine (HMB.out _ hB2 (hf2 (by trivial))).mono ?_;rintro x wm ⟨rfl,hbm⟩;have hBm:=belowP hB2 hbm;clear hbm)
      | (go_at_call 11;refine (HJ.out _ hBm (hf1 (by trivial)) (hf2 (by trivial))).mono ?_;rintro x w3 ⟨rfl,hb3⟩;have hB3:=belowP hBm hb3;clear hb3)
      | (refine wpList_load_midg (by kernel_rfl) 28 _ rfl w.heap.size 0 rfl (cellsE e p) (HLD.out _ hBm) ?_)
      | (refine wpList_load_midg (by kernel_rfl) 28 _ rfl w.heap.size 0 rfl (cellsE e p) (HLD.out _ hB0) ?_)
      | (go_at_call 13;refine (HAW.out _ hB3).mono ?_;rintro x w9 ⟨rfl,hb9⟩;have hB9:=belowP hB3 hb9)
      | (go_at_call 13;refine (HAW.out _ hN2).mono ?_;rintro x w9 ⟨rfl,hb9⟩;have hB9:=belowP hN2 hb9)
      | (go_at_call 13;refine (HAW.out _ hN1).mono ?_;rintro x w9 ⟨rfl,hb9⟩;have hB9:=belowP hN1 hb9))
     all_goals (go_ret;exact ⟨rfl,belowP hb0 hB9⟩)
end Go.Proofs.YtldegjjaknelgaaGreatDoor
