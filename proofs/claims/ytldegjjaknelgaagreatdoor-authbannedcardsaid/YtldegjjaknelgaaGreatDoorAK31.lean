/-
  open: the walk.
  Who joins: by contracts.
-/
import Derived.Test.YtldegjjaknelgaaGreatDoorAK30
set_option maxRecDepth 100000
set_option maxHeartbeats 16000000
namespace Go.Proofs.YtldegjjaknelgaaGreatDoor
open Go.RowKit
theorem setCells_mid (b t : Nat) : ∀ (vs pre cur post : List Value) (w : World),w.heap[b]? = some (.cells (pre ++ (cur ++ post)).toArray t (0,0)) → cur.length = vs.length → (w.setCells b pre.length vs).heap[b]? = some (.cells (pre ++ (vs ++ post)).toArray t (0,0))
 | [],pre,cur,post,w,h,hl => by
  obtain rfl : cur = []:=List.eq_nil_of_length_eq_zero hl
  exact h
 | v :: r,pre,c :: cur,post,w,h,hl => by
  have h0 : (w.setCell ⟨b,pre.length,none⟩ v).heap[b]? = some (.cells ((pre ++ [v]) ++ (cur ++ post)).toArray t (0,0)):=by
   rw [heap_setCell_same w b pre.length _ _ _ h]
   simp
  have:=setCells_mid b t r (pre ++ [v]) cur post _ h0 (by simpa using hl)
  rw [List.length_append] at this
  simpa [World.setCells] using this
theorem setCells_keep (b : Nat) : ∀ (vs : List Value) (w : World) (i : Nat),Keep (OneP b) w (w.setCells b i vs)
 | [],w,_ => Keep.refl _ w
 | v :: r,w,i => (Keep.setCell (p:=⟨b,i,none⟩) (Keep.refl (OneP b) w) (fun _ => (rfl : b = b)) v).then (setCells_keep b r _ (i + 1))
theorem wpList_store_to {ops : Array Oper} {rest : List Oper} {op : Oper} {a : Act} {w : World} {Q : Exit → Act → World → Prop} (hgd : op.guard = none) (ty : TypeId) (x y : Operand) (ho : op.op = .store ty x y)
    (b o : Nat) (cells : Array Value) (hx : a.eval x = .pointer (some ⟨b,o,none⟩)) (hy : a.eval y = .agg cells)
    (ht : w.there b o cells.size) (hi : (Tryz.prog.info? ty).map (·.size) = some cells.size) (h1 : cells.all (·.oneCell') = true) (W' : World) (hW' : W' = w.setCells b o cells.toList)
    (h : wpList Tryz.prog ops Q rest (a.put op.dst undef) W') : wpList Tryz.prog ops Q (op :: rest) a w:=by
 subst hW'
 exact wpList_store_mid hgd ty x y ho b o cells hx hy ht hi h1 h
section
variable {w : World} {hb : Nat} {h : Hr} {p : Ph}
def preH (h : Hr) (p : Ph) : List Value:=cellsE h.e p.e ++ (.slice p.ps h.st.length p.cs :: cellsK (h.cn,h.ce) p.ce)
theorem there_H {vs : Lv} {q : Pl} (hX : w.heap[hb]? = some (.cells (cellsH h p).toArray 92 (0,0))) : w.there hb 34 (cellsL vs q).toArray.size:=fun j hj => by
 have hj9 : j < 9:=hj
 refine ⟨?_,fzP hX _⟩
 have hlt : 34 + j < (cellsH h p).toArray.size:=by show 34 + j < 44;omega
 rw [cellP hX (34 + j) _ (Array.getElem?_eq_getElem hlt)]
 rfl
theorem mid_H {l : Lv} {q : Pl} (hX : w.heap[hb]? = some (.cells (cellsH h p).toArray 92 (0,0))) : (w.setCells hb 34 (cellsL l q)).heap[hb]? = some (.cells (preH h p ++ (cellsL l q ++ [Value.bool h.told])).toArray 92 (0,0)) :=
 setCells_mid hb 92 (cellsL l q) (preH h p) (cellsL h.l p.l) [Value.bool h.told] w hX rfl
end
theorem open_any {O : Nat → Prop} {w : World} {e : Ev} {p : Pt} {ps : Option Addr} {cs : Nat} {l : List Kn} (h : IsE O w e p) (hst : RdE O w ps cs l) (hO : ∀ b, O b → b < w.heap.size) (hk : SzK l) :
    Calls Tryz.prog 52 #[valE e p,.slice ps l.length cs] w fun x w' => OpenP w' (openT e l) x ∧ Below w.heap.size w w':=by
 obtain ⟨W0,hW0⟩ : ∃ W0,W0 = w.alloc (.cells (cellsE e p).toArray 28):=⟨_,rfl⟩
 have hb0 : Below w.heap.size w W0:=by rw [hW0];exact (Below.refl _ _).alloc (Nat.le_refl _) _
 have hX0 : W0.heap[w.heap.size]? = some (.cells (cellsE e p).toArray 28 (0,0)):=by rw [hW0];exact newP _
 have hV:=isV_new h hO hb0 hX0
 have HV : Hid (∀ X,Below W0.heap.size W0 X → IsV X w.heap.size e p):=fun X hX => hV.below hX
 have HST : Hid (∀ X,Below W0.heap.size W0 X → RdE (· < X.heap.size) X ps cs l):=fun X hX => hst.carry fun k hk => ⟨Nat.lt_of_lt_of_le (hO k hk) (belowP hb0 hX).size,(belowP hb0 hX).block k (hO k hk)⟩
 have HF : Hid (∀ (kind : ByteArray) X,Below W0.heap.size W0 X → Calls Tryz.prog 81 #[.slice ps l.length cs,.string kind,.string ⟨#[]⟩] X fun e w' => (∃ q,e = .returned (.tuple #[valK ((findT l kind ⟨#[]⟩).getD zK) q,.bool (findT l kind ⟨#[]⟩).isSome]) ∧ IsE (· < X.heap.size) w' ((findT l kind ⟨#[]⟩).getD zK).2 q) ∧ Below X.heap.size X w'):=fun kind X hX => find_got (HST.out X hX) (fun _ h => h) hk.len kind ⟨#[]⟩
 have hF1:=HF.out tCreate W0 (Below.refl _ _)
 have HF2:=(show Hid _ from HF.out tPower)
 have HE0 : Hid (∀ X,Below w.heap.size w X → IsE (· < w.heap.size) X e p ∧ RdE (· < w.heap.size) X ps cs l):=fun X hX => ⟨h.carry fun k hk => ⟨hO k hk,hX.block k (hO k hk)⟩,hst.carry fun k hk => ⟨hO k hk,hX.block k (hO k hk)⟩⟩
 have HSC : Hid (∀ k,findT l tPower ⟨#[]⟩ = some k → szJ 12 k.2.content = true):=fun k hf => sz_less 12 13 _ (by decide) (hk.cont k (List.mem_of_find?_eq_some hf))
 have HO : Hid (openT e l = match findT l tCreate ⟨#[]⟩ with | none => none | some c => if eqT c.2.room e.room then (match levT l c.2.sender with | none => none | some v => some ⟨e,l,c.1,c.2,v,(findT l tPower ⟨#[]⟩).isSome⟩) else none):=rfl
 clear h hst hV hX0 HF hk
 unfold valE
 generalize findT l tCreate ⟨#[]⟩ = oc at hF1 HO
 cases oc with
 | none =>
  have HT : Hid (openT e l = none):=HO.out
  clear HO
  simp only [Option.getD_none,Option.isSome_none] at hF1
  go_enter Tryz.func52,Tryz.ntmps52
  go_upto_region 1 with fail
  rw [← hW0]
  clear hW0
  go_wp2_with (first
   | (go_at_call 81;refine hF1.mono ?_;rintro e w1 ⟨⟨q,rfl,_⟩,hb1⟩;unfold valK)
   | (refine wpList_store_row rfl 41 _ _ rfl w1.heap.size 41 _ (cellsK zK q).toArray rfl rfl (newP _) infoK rfl (one_K zK q) ?_)
   | (go_at_call 54;refine (noIf_any _ _).mono ?_;rintro e wn ⟨he,rfl⟩;replace he : e = _:=he;subst he))
  refine ⟨rfl,by rw [HT.out];rfl,belowP hb0 (belowP hb1 ?_)⟩
  exact ((Below.refl _ _).alloc (Nat.le_refl _) _).trans ((keep_setRow _ w1.heap.size _).below (by simp) fun q hq e => by unfold OneP at e;omega)
 | some c =>
  simp only [Option.getD_some,Option.isSome_some] at hF1 HO
  go_enter Tryz.func52,Tryz.ntmps52
  go_upto_region 1 with fail
  rw [← hW0]
  clear hW0
  go_upto_region 2 with (first
   | (go_at_call 81;refine hF1.mono ?_;rintro e w1 ⟨⟨q,rfl,hIc⟩,hb1⟩;unfold valK)
   | (refine wpList_store_row rfl 41 _ _ rfl w1.heap.size 41 _ (cellsK c q).toArray rfl rfl (newP _) infoK rfl (one_K c q) ?_))
  have hbA : Below w1.heap.size w1 ((w1.alloc (.cells (cellsK zK Pt.zero).toArray 41)).setRow w1.heap.size (cellsK c q).toArray) :=
   ((Below.refl _ _).alloc (Nat.le_refl _) _).trans ((keep_setRow _ w1.heap.size _).below (by simp) fun q hq e => by unfold OneP at e;omega)
  have hX : ((w1.alloc (.cells (cellsK zK Pt.zero).toArray 41)).setRow w1.heap.size (cellsK c q).toArray).heap[w1.heap.size]? = some (.cells (cellsK c q).toArray 41 (0,0)):=setRow_heap _ _ _ _ _ _ (newP _)
  change Code.wp _ _ _ _ ((w1.alloc (.cells (cellsK zK Pt.zero).toArray 41)).setRow w1.heap.size (cellsK c q).toArray)
  generalize (w1.alloc (.cells (cellsK zK Pt.zero).toArray 41)).setRow w1.heap.size (cellsK c q).toArray = W at hbA hX
  have hBW : Below W0.heap.size W0 W:=belowP hb1 hbA
  have HB : Hid (∀ X,Below W.heap.size W X → Below w.heap.size w X):=fun X hX => belowP hb0 (belowP hBW hX)
  have HVW : Hid (∀ X,Below W.heap.size W X → IsV X w.heap.size e p):=fun X hX => HV.out X (belowP hBW hX)
  have HSW : Hid (∀ X,Below W.heap.size W X → RdE (· < X.heap.size) X ps cs l):=fun X hX' => HST.out X (belowP hBW hX')
  have HFW : Hid (∀ X,Below W.heap.size W X → Calls Tryz.prog 81 #[.slice ps l.length cs,.string tPower,.string ⟨#[]⟩] X fun e w' => (∃ q,e = .returned (.tuple #[valK ((findT l tPower ⟨#[]⟩).getD zK) q,.bool (findT l tPower ⟨#[]⟩).isSome]) ∧ IsE (· < X.heap.size) w' ((findT l tPower ⟨#[]⟩).getD zK).2 q) ∧ Below X.heap.size X w'):=fun X hX => HF2.out X (belowP hBW hX)
  have HKW : Hid (∀ X,Below W.heap.size W X → X.heap[w1.heap.size]? = some (.cells (cellsK c q).toArray 41 (0,0)) ∧ IsE (· < X.heap.size) X c.2 q):=fun X hX' => ⟨(hX'.block _ (objP_lt hX)).trans hX,hIc.carry fun k hk => ⟨Nat.lt_of_lt_of_le (Nat.lt_of_lt_of_le hk hb1.size) (Nat.le_trans hbA.size hX'.size),(hX'.block k (Nat.lt_of_lt_of_le (Nat.lt_of_lt_of_le hk hb1.size) hbA.size)).trans (hbA.block k (Nat.lt_of_lt_of_le hk hb1.size))⟩⟩
  have er:=(HVW.out W (Below.refl _ _)).room
  have cr : W.cell? ⟨w1.heap.size,1,none⟩ = some (.string c.2.room):=cellP hX 1 _ rfl
  clear hF1 HF2 HV HST hIc hbA hX hBW hb1
  cases hr : (c.2.room.toList == e.room.toList) with
  | false =>
   have HT : Hid (openT e l = none):=by show _ = _;rw [HO.out];exact if_neg (by show ¬ (eqT c.2.room e.room) = true;rw [show eqT c.2.room e.room = false from hr];decide)
   clear HO
   go_wp2_with (go_at_call 54;refine (noIf_any _ _).mono ?_;rintro e wn ⟨he,rfl⟩;replace he : e = _:=he;subst he)
   exact ⟨rfl,by rw [HT.out];rfl,HB.out _ (Below.refl _ _)⟩
  | true =>
   have HT : Hid (openT e l = match levT l c.2.sender with | none => none | some v => some ⟨e,l,c.1,c.2,v,(findT l tPower ⟨#[]⟩).isSome⟩):=by show _ = _;rw [HO.out];exact if_pos hr
   clear HO
   go_upto_region 3 with (go_at_call 54;refine (noIf_any _ _).mono ?_;rintro e wn ⟨he,rfl⟩;replace he : e = _:=he;subst he)
   refine wp_region_in (by kernel_rfl) (fun w' => Below W.heap.size W w') ?_
   change wpIn _ _ _ _ _ _ _ _ (World.drew _)
   have hD : Below W.heap.size W W.drew:=(Below.refl _ _).drew
   refine wpIn_take (i:=0) (d:=(some 26)) (v:=(valE e p)) (a':=?aqo0) rfl rfl (by kernel_rfl) (by kernel_rfl) (by kernel_rfl) (fun _ _ _ h => h) (Or.inl ⟨by rfl,?yqo0⟩) ?fqo0 ?_
   case yqo0 => exact fun wq hq => exec_loadR rfl rfl (run_loadAt_mid wq w.heap.size 0 28 (cellsE e p) _ (HVW.out wq hq).rangeE Tryz.underlying28 rfl infoE)
   case fqo0 => (go_frame;rfl)
   refine wpIn_tk (i:=1) (d:=some 27) rfl ?_
   refine wpIn_take (i:=2) (d:=(some 28)) (v:=(valK c q)) (a':=?aqo2) rfl rfl (by kernel_rfl) (by kernel_rfl) (by kernel_rfl) (fun _ _ _ h => h) (Or.inl ⟨by rfl,?yqo2⟩) ?fqo2 ?_
   case yqo2 => exact fun wq hq => exec_loadR rfl rfl (run_loadAt_mid wq w1.heap.size 0 41 (cellsK c q) _ (range_of (HKW.out wq hq).1) Tryz.underlying41 rfl infoK)
   case fqo2 => (go_frame;rfl)
   refine wpIn_tk (i:=3) (d:=some 29) rfl ?_
   refine wpIn_tk (i:=4) (d:=some 30) rfl ?_
   refine wpIn_tp (i:=5) (d:=some 31) rfl (by (intro wq hq;have zf : wq.cell? ⟨w1.heap.size,3,none⟩ = some (.string c.2.sender):=cellP (HKW.out wq hq).1 3 _ rfl;go_simp;first | done | with_reducible rfl)) ?_
   refine wpIn_do (i:=6) hD (by kernel_rfl) rfl (by rfl) ?_
   intro K hK
   go_simp
   go_wp2_with (go_at_call 82;refine (start_lv c.2.sender).mono ?_;rintro x w2 ⟨⟨ql,rfl,hIl⟩,hbw2⟩)
   have hD6 : Below W.heap.size W w2:=belowP hD hbw2
   refine wpIn_take (i:=7) (d:=(some 33)) (v:=(.agg (cellsH ⟨e,l,c.1,c.2,startL c.2.sender,false⟩ ⟨p,ps,cs,q,ql⟩).toArray)) (a':=?aqo7) rfl rfl (by kernel_rfl) (by kernel_rfl) (by kernel_rfl) (fun _ _ _ h => h) (Or.inl ⟨by rfl,?yqo7⟩) ?fqo7 ?_
   case yqo7 => (intro wq hq;simp only [valE,valK,valL,cellsE,cellsK,cellsL];go_simp;first | done | rfl)
   case fqo7 => (go_frame;rfl)
   refine wpIn_do (i:=8) hD6 (by kernel_rfl) rfl (by rfl) ?_
   intro K hK
   go_simp
   refine hK _ _ ?_
   clear hK K
   obtain ⟨W3,hW3⟩ : ∃ W3,W3 = w2.alloc (.cells (cellsH ⟨e,l,c.1,c.2,startL c.2.sender,false⟩ ⟨p,ps,cs,q,ql⟩).toArray 92):=⟨_,rfl⟩
   have hb3 : Below w2.heap.size w2 W3:=by rw [hW3];exact (Below.refl _ _).alloc (Nat.le_refl _) _
   have hX3 : W3.heap[w2.heap.size]? = some (.cells (cellsH ⟨e,l,c.1,c.2,startL c.2.sender,false⟩ ⟨p,ps,cs,q,ql⟩).toArray 92 (0,0)):=by rw [hW3];exact newP _
   have hD8 : Below W.heap.size W W3:=belowP hD6 hb3
   rw [← hW3]
   refine wpIn_tk (i:=9) (d:=some 7) rfl ?_
   refine wpIn_done hD8 (by kernel_rfl) ?_ _
   have HTN : Hid (findT l tPower ⟨#[]⟩ = none → openT e l = some ⟨e,l,c.1,c.2,startL c.2.sender,false⟩):=fun hf => by rw [HT.out,levT,hf];rfl
   have HTS : Hid (∀ k,findT l tPower ⟨#[]⟩ = some k → (parseT (ordT k.2.content)).2 = 0 → openT e l = some ⟨e,l,c.1,c.2,(parseT (ordT k.2.content)).1,true⟩):=fun k hf h0 => by rw [HT.out,levT,hf];simp only [];rw [if_pos h0];rfl
   have HTB : Hid (∀ k,findT l tPower ⟨#[]⟩ = some k → (parseT (ordT k.2.content)).2 = 1 → openT e l = none):=fun k hf h0 => by rw [HT.out,levT,hf];simp only [];rw [if_neg (by rw [h0];decide)]
   have HI3 : Hid (IsH W3 w2.heap.size ⟨e,l,c.1,c.2,startL c.2.sender,false⟩ ⟨p,ps,cs,q,ql⟩):=⟨hX3,(HVW.out W3 hD8).ev,HSW.out W3 hD8,hIl.carry fun b hb => ⟨Nat.lt_of_lt_of_le hb.2 hb3.size,hb3.block b hb.2⟩⟩
   have hF:=HFW.out W3 hD8
   have HS4 : Hid (w.heap.size ≤ w2.heap.size ∧ w2.heap.size < W3.heap.size):=⟨(HB.out w2 hD6).size,objP_lt hX3⟩
   have HB3 : Hid (∀ X,Below W3.heap.size W3 X → Below w.heap.size w X):=fun X hX => HB.out X (belowP hD8 hX)
   clear HT hW3 hX3 hIl HVW HSW HFW HKW hD6 hD hD8 hb3 hbw2 er cr HB
   generalize findT l tPower ⟨#[]⟩ = op at hF HTN HTS HTB HSC
   cases op with
   | none =>
    have HTE:=(show Hid _ from HTN.out rfl)
    clear HTN HTS HTB HSC
    simp only [Option.getD_none,Option.isSome_none] at hF
    go_wp2_with (first
     | (go_at_call 81;refine hF.mono ?_;rintro x w4 ⟨⟨qk,rfl,_⟩,hb4⟩;unfold valK)
     | (refine wpList_store_row rfl 41 _ _ rfl w4.heap.size 41 _ (cellsK zK qk).toArray rfl rfl (newP _) infoK rfl (one_K zK qk) ?_))
    go_ret
    have hbA : Below w4.heap.size w4 ((w4.alloc (.cells (cellsK zK Pt.zero).toArray 41)).setRow w4.heap.size (cellsK zK qk).toArray) :=
     ((Below.refl _ _).alloc (Nat.le_refl _) _).trans ((keep_setRow _ w4.heap.size _).below (by simp) fun q hq e => by unfold OneP at e;omega)
    refine ⟨?_,HB3.out _ (belowP hb4 hbA)⟩
    rw [HTE.out]
    exact ⟨_,⟨p,ps,cs,q,ql⟩,rfl,HI3.out.below (belowP hb4 hbA)⟩
   | some k =>
    have HSK:=(show Hid _ from HSC.out k rfl)
    simp only [Option.getD_some,Option.isSome_some] at hF
    go_upto_region 6 with (first
     | (go_at_call 81;refine hF.mono ?_;rintro x w4 ⟨⟨qk,rfl,hIk⟩,hb4⟩;unfold valK)
     | (refine wpList_store_row rfl 41 _ _ rfl w4.heap.size 41 _ (cellsK k qk).toArray rfl rfl (newP _) infoK rfl (one_K k qk) ?_))
    have hbA : Below w4.heap.size w4 ((w4.alloc (.cells (cellsK zK Pt.zero).toArray 41)).setRow w4.heap.size (cellsK k qk).toArray) :=
     ((Below.refl _ _).alloc (Nat.le_refl _) _).trans ((keep_setRow _ w4.heap.size _).below (by simp) fun q hq e => by unfold OneP at e;omega)
    have hX4 : ((w4.alloc (.cells (cellsK zK Pt.zero).toArray 41)).setRow w4.heap.size (cellsK k qk).toArray).heap[w4.heap.size]? = some (.cells (cellsK k qk).toArray 41 (0,0)):=setRow_heap _ _ _ _ _ _ (newP _)
    change Code.wp _ _ _ _ ((w4.alloc (.cells (cellsK zK Pt.zero).toArray 41)).setRow w4.heap.size (cellsK k qk).toArray)
    generalize (w4.alloc (.cells (cellsK zK Pt.zero).toArray 41)).setRow w4.heap.size (cellsK k qk).toArray = W4 at hbA hX4
    have hB4 : Below W3.heap.size W3 W4:=belowP hb4 hbA
    have HR4 : Hid (W4.rangeAt w4.heap.size 1 (cellsE k.2 qk)):=range_sub hX4 1 rfl
    have hLv:=levelsIn_any (O:=(· < W3.heap.size)) (w:=W4) (e:=k.2) (p:=qk) (hIk.carry fun b hb => ⟨hb,hbA.block b (Nat.lt_of_lt_of_le hb hb4.size)⟩) (fun b hb => Nat.lt_of_lt_of_le hb hB4.size) HSK.out
    have HTS1:=(show Hid _ from HTS.out k rfl)
    have HTB1:=(show Hid _ from HTB.out k rfl)
    clear HTN HTS HTB HSC hF hIk hX4 HSK
    unfold LevP at hLv
    unfold valE at hLv
    have HEE : Hid ((parseT (ordT k.2.content)).2 = 0 ∨ (parseT (ordT k.2.content)).2 = 1):=parse_err _
    generalize parseT (ordT k.2.content) = R at hLv HTS1 HTB1 HEE
    obtain ⟨L,E⟩:=R
    simp only at hLv HTS1 HTB1 HEE
    have HI4:=(show Hid _ from HI3.out.below hB4)
    rcases HEE.out with rfl | rfl
    · have hLv0 : Calls Tryz.prog 83 #[.agg (cellsE k.2 qk).toArray] W4 fun x w' => (∃ q2, x = .returned (.agg (cellsL L q2).toArray) ∧ IsL (fun b => W4.heap.size ≤ b ∧ b < w'.heap.size) w' L q2) ∧ Below W4.heap.size W4 w' := by
        refine hLv.mono fun x w' hh => ⟨?_,hh.2⟩
        rcases hh.1 with ⟨_,q2,hx,hi⟩ | ⟨hx,_⟩
        · exact ⟨q2,hx,hi⟩
        · exact absurd hx (by decide)
      have HTE:=(show Hid _ from HTS1.out rfl)
      clear hLv HTS1 HTB1 HEE
      go_wp2_with (first
       | (refine wpList_load_mid rfl 28 _ rfl w4.heap.size 1 rfl (cellsE k.2 qk) _ HR4.out Tryz.underlying28 rfl infoE ?_)
       | (go_at_call 83; refine hLv0.mono ?_; rintro x w5 ⟨⟨q2, rfl, hI2⟩, hb5⟩
          have HX5:=(show Hid _ from (HI4.out.below hb5).blk)
          have HTH : Hid (w5.there w2.heap.size 34 (cellsL L q2).toArray.size):=there_H HX5.out
          obtain ⟨W5,hW5⟩ : ∃ W5,W5 = w5.setCells w2.heap.size 34 (cellsL L q2):=⟨_,rfl⟩
          have HW5:=(show Hid _ from hW5)
          have HM:=(show Hid _ from mid_H (l:=L) (q:=q2) HX5.out)
          rw [← hW5] at HM
          clear hW5
          have g43 : W5.cell? ⟨w2.heap.size,43,none⟩ = some (.bool false):=cellP HM.out 43 _ rfl
          have z43:=fzP HM.out 43)
       | (refine wpList_store_to rfl 47 _ _ rfl w2.heap.size 34 (cellsL L q2).toArray rfl rfl HTH.out infoL (one_L L q2) W5 HW5.out ?_))
      go_ret
      have hk1 : Keep (OneP w2.heap.size) w5 W5:=by rw [HW5.out];exact setCells_keep w2.heap.size (cellsL L q2) w5 34
      have hk2 : Keep (OneP w2.heap.size) w5 (W5.setCell ⟨w2.heap.size,43,none⟩ (.bool true)):=Keep.setCell (S:=OneP w2.heap.size) (p:=⟨w2.heap.size,43,none⟩) hk1 (fun _ => (rfl : w2.heap.size = w2.heap.size)) _
      have hh : (W5.setCell ⟨w2.heap.size,43,none⟩ (.bool true)).heap[w2.heap.size]? = some (.cells (cellsH ⟨e,l,c.1,c.2,L,true⟩ ⟨p,ps,cs,q,q2⟩).toArray 92 (0,0)):=by rw [heap_setCell_same _ w2.heap.size 43 _ _ _ HM.out];rfl
      have hB5:=HB3.out w5 (belowP hB4 hb5)
      have hs4:=HS4.out
      have hs5:=hB4.size
      have hbE : Below w.heap.size w (W5.setCell ⟨w2.heap.size,43,none⟩ (.bool true)):=hB5.trans (hk2.below hB5.size fun k hk e => by unfold OneP at e;omega)
      have hIE:=HE0.out _ hbE
      refine ⟨?_,hbE⟩
      rw [HTE.out]
      exact ⟨_,⟨p,ps,cs,q,q2⟩,rfl,⟨hh,hIE.1.carry fun k hk => ⟨Nat.lt_of_lt_of_le hk hbE.size,rfl⟩,hIE.2.carry fun k hk => ⟨Nat.lt_of_lt_of_le hk hbE.size,rfl⟩,hI2.carry fun b hb => ⟨Nat.lt_of_lt_of_le hb.2 hk2.size,hk2.block b hb.2 (by unfold OneP;have:=hb.1;omega)⟩⟩⟩
    · have hLv1 : Calls Tryz.prog 83 #[.agg (cellsE k.2 qk).toArray] W4 fun x w' => x = thrown false ∧ Below W4.heap.size W4 w' := by
        refine hLv.mono fun x w' hh => ⟨?_,hh.2⟩
        rcases hh.1 with ⟨hx,_⟩ | ⟨_,hx⟩
        · exact absurd hx (by decide)
        · exact hx
      have HTE:=(show Hid _ from HTB1.out rfl)
      clear hLv HTS1 HTB1 HEE
      go_wp2_with (first
       | (refine wpList_load_mid rfl 28 _ rfl w4.heap.size 1 rfl (cellsE k.2 qk) _ HR4.out Tryz.underlying28 rfl infoE ?_)
       | (go_at_call 83;refine hLv1.mono ?_;rintro x w5 ⟨rfl,hb5⟩))
      exact ⟨rfl,by rw [HTE.out];rfl,HB3.out _ (belowP hB4 hb5)⟩
section
variable {w : World} {hb : Nat} {h : Hr} {p : Ph}
theorem alone_any (x : IsH w hb h p) (hz : SzH h) : Calls Tryz.prog 122 #[.pointer (some ⟨hb,0,none⟩)] w fun e w' => e = .returned (.bool h.alone) ∧ Below w.heap.size w w':=by
 have HT : Hid (h.alone = (decide (h.e.prev.length = 1) && eqT (h.e.prev.getD 0 nix) h.cn)):=rfl
 have hp:=x.prev
 have hn:=x.cname
 have hr:=x.ev.prev
 have hlen:=hz.e.prev
 clear x
 by_cases h1 : h.e.prev.length = 1
 · obtain ⟨a,ha,_,hc⟩:=hr.2 0 (by omega)
   have hcap:=hr.1
   rw [h1] at hp hcap
   rw [ha] at hp
   have HT2 : Hid (h.alone = eqT (h.e.prev.getD 0 nix) h.cn):=by show _ = _;rw [HT.out,h1];rfl
   generalize h.e.prev.getD 0 nix = u at hc HT2
   have hc' : w.cell? a = some (.string u):=by
    have e0 : a.add 0 = a:=by obtain ⟨b,o,s⟩:=a;unfold Addr.add;split <;> simp_all
    rw [e0] at hc
    exact hc
   clear hr HT h1 hlen
   go_enter Tryz.func122,Tryz.ntmps122
   go_wp2
   go_quiet (fail)
   go_wp2
   go_ret
   exact ⟨by rw [HT2.out];rfl,belowN _ _⟩
 · have HT2 : Hid (h.alone = false):=by show _ = _;rw [HT.out];simp [h1]
   generalize h.e.prev.length = n at hp h1
   have hd : ((n : Int) == 1) = false:=by simp;omega
   have hd2 : decide (n = 1) = false:=decide_eq_false h1
   have hd3 : (n == 1) = false:=by simp [h1]
   clear hr HT hlen
   go_enter Tryz.func122,Tryz.ntmps122
   go_wp2
   go_quiet (fail)
   go_wp2
   go_ret
   exact ⟨by rw [HT2.out];rfl,belowN _ _⟩
theorem joins_any (x : IsH w hb h p) (hz : SzH h) : Calls Tryz.prog 85 #[.pointer (some ⟨hb,0,none⟩)] w fun e w' => e = thrown h.joins ∧ Below w.heap.size w w':=by
 have HJ : Hid (h.joins = (h.own && ((h.alone && eqT h.ce.sender h.e.sender) || (!eqT h.target vBan && ((eqT h.target vJoin || eqT h.target vInvite) || eqT (textOfT h.st tRules ⟨#[]⟩ nRule) vPublic))))):=rfl
 have HX : Hid (∀ X,Below w.heap.size w X → IsH X hb h p):=fun X hX => x.below hX
 have hOw:=own_any x
 have HAl : Hid (∀ X,Below w.heap.size w X → Calls Tryz.prog 122 #[.pointer (some ⟨hb,0,none⟩)] X fun e w' => e = .returned (.bool h.alone) ∧ Below X.heap.size X w'):=fun X hX => alone_any (HX.out X hX) hz
 have HTg : Hid (∀ X,Below w.heap.size w X → Calls Tryz.prog 86 #[.pointer (some ⟨hb,0,none⟩)] X fun e w' => e = .returned (.string h.target) ∧ Below X.heap.size X w'):=fun X hX => target_any (HX.out X hX) hz
 have HTx : Hid (∀ X,Below w.heap.size w X → Calls Tryz.prog 123 #[.slice p.ps h.st.length p.cs,.string tRules,.string ⟨#[]⟩,.string nRule] X fun e w' => e = .returned (.string (textOfT h.st tRules ⟨#[]⟩ nRule)) ∧ Below X.heap.size X w'):=fun X hX => textOf_any (HX.out X hX).st (fun _ h => h) hz.st tRules ⟨#[]⟩ nRule
 clear x
 unfold eqT at HJ
 rw [lit_vBan,lit_vJoin,lit_vInvite,lit_vPublic] at HJ
 generalize textOfT h.st tRules ⟨#[]⟩ nRule = rule at HTx HJ
 generalize h.target = tg at HTg HJ
 generalize h.own = bo at hOw HJ
 generalize h.alone = ba at HAl HJ
 cases bo with
 | false =>
  have HT : Hid (h.joins = false):=by show _ = _;rw [HJ.out];rfl
  clear HJ
  go_enter Tryz.func85,Tryz.ntmps85
  go_wp2_with (first
   | (go_at_call 59;refine hOw.mono ?_;rintro e w1 ⟨rfl,hb1⟩)
   | (go_at_call 54;refine (noIf_any _ _).mono ?_;rintro e wn ⟨he,rfl⟩;replace he : e = _:=he;subst he))
  exact ⟨rfl,by rw [HT.out],hb1⟩
 | true =>
  go_enter Tryz.func85,Tryz.ntmps85
  go_upto_region 1 with (first
   | (go_at_call 59;refine hOw.mono ?_;rintro e W ⟨rfl,hb1⟩)
   | (go_at_call 54;refine (noIf_any _ _).mono ?_;rintro e wn ⟨he,rfl⟩;replace he : e = _:=he;subst he))
  have HX1 : Hid (∀ X,Below W.heap.size W X → IsH X hb h p):=fun X hX => HX.out X (belowP hb1 hX)
  have HAl1 : Hid (∀ X,Below W.heap.size W X → Calls Tryz.prog 122 #[.pointer (some ⟨hb,0,none⟩)] X fun e w' => e = .returned (.bool ba) ∧ Below X.heap.size X w'):=fun X hX => HAl.out X (belowP hb1 hX)
  have HTg1 : Hid (∀ X,Below W.heap.size W X → Calls Tryz.prog 86 #[.pointer (some ⟨hb,0,none⟩)] X fun e w' => e = .returned (.string tg) ∧ Below X.heap.size X w'):=fun X hX => HTg.out X (belowP hb1 hX)
  have HTx1 : Hid (∀ X,Below W.heap.size W X → Calls Tryz.prog 123 #[.slice p.ps h.st.length p.cs,.string tRules,.string ⟨#[]⟩,.string nRule] X fun e w' => e = .returned (.string rule) ∧ Below X.heap.size X w'):=fun X hX => HTx.out X (belowP hb1 hX)
  have HBW : Hid (∀ X,Below W.heap.size W X → Below w.heap.size w X):=fun X hX => belowP hb1 hX
  clear HX HAl HTg HTx hOw hb1
  have HX:=HX1
  clear HX1
  refine wp_region_in (by kernel_rfl) (fun w' => Below W.heap.size W w') ?_
  change wpIn _ _ _ _ _ _ _ _ (World.drew _)
  have hD : Below W.heap.size W W.drew:=(Below.refl _ _).drew
  generalize hcs : (h.ce.sender.toList == h.e.sender.toList) = bc at HJ
  cases ba with
  | false =>
   refine wpIn_tk (i:=0) (d:=some 7) rfl ?_
   refine wpIn_do (i:=1) hD (by kernel_rfl) rfl (by rfl) ?_
   intro K hK
   go_simp
   go_wp2_with (go_at_call 122;refine (HAl1.out _ hD).mono ?_;rintro e w2 ⟨rfl,hbw2⟩)
   have hD1 : Below W.heap.size W w2:=belowP hD hbw2
   refine wpIn_tk (i:=2) (d:=some 9) rfl ?_
   refine wpIn_take (i:=3) (d:=(some 10)) (v:=undef) (a':=?aqa3) rfl rfl (by kernel_rfl) (by kernel_rfl) (by kernel_rfl) (fun _ _ _ h => h) (Or.inr ⟨by rfl,rfl⟩) ?fqa3 ?_
   case fqa3 => (go_frame;rfl)
   refine wpIn_take (i:=4) (d:=(some 11)) (v:=undef) (a':=?aqa4) rfl rfl (by kernel_rfl) (by kernel_rfl) (by kernel_rfl) (fun _ _ _ h => h) (Or.inr ⟨by rfl,rfl⟩) ?fqa4 ?_
   case fqa4 => (go_frame;rfl)
   refine wpIn_take (i:=5) (d:=(some 12)) (v:=undef) (a':=?aqa5) rfl rfl (by kernel_rfl) (by kernel_rfl) (by kernel_rfl) (fun _ _ _ h => h) (Or.inr ⟨by rfl,rfl⟩) ?fqa5 ?_
   case fqa5 => (go_frame;rfl)
   refine wpIn_take (i:=6) (d:=(some 13)) (v:=undef) (a':=?aqa6) rfl rfl (by kernel_rfl) (by kernel_rfl) (by kernel_rfl) (fun _ _ _ h => h) (Or.inr ⟨by rfl,rfl⟩) ?fqa6 ?_
   case fqa6 => (go_frame;rfl)
   refine wpIn_take (i:=7) (d:=(some 14)) (v:=undef) (a':=?aqa7) rfl rfl (by kernel_rfl) (by kernel_rfl) (by kernel_rfl) (fun _ _ _ h => h) (Or.inr ⟨by rfl,rfl⟩) ?fqa7 ?_
   case fqa7 => (go_frame;rfl)
   refine wpIn_take (i:=8) (d:=(some 15)) (v:=undef) (a':=?aqa8) rfl rfl (by kernel_rfl) (by kernel_rfl) (by kernel_rfl) (fun _ _ _ h => h) (Or.inr ⟨by rfl,rfl⟩) ?fqa8 ?_
   case fqa8 => (go_frame;rfl)
   refine wpIn_take (i:=9) (d:=(some 16)) (v:=undef) (a':=?aqa9) rfl rfl (by kernel_rfl) (by kernel_rfl) (by kernel_rfl) (fun _ _ _ h => h) (Or.inr ⟨by rfl,rfl⟩) ?fqa9 ?_
   case fqa9 => (go_frame;rfl)
   refine wpIn_take (i:=10) (d:=(some 17)) (v:=undef) (a':=?aqa10) rfl rfl (by kernel_rfl) (by kernel_rfl) (by kernel_rfl) (fun _ _ _ h => h) (Or.inr ⟨by rfl,rfl⟩) ?fqa10 ?_
   case fqa10 => (go_frame;rfl)
   refine wpIn_take (i:=11) (d:=(some 18)) (v:=undef) (a':=?aqa11) rfl rfl (by kernel_rfl) (by kernel_rfl) (by kernel_rfl) (fun _ _ _ h => h) (Or.inr ⟨by rfl,rfl⟩) ?fqa11 ?_
   case fqa11 => (go_frame;rfl)
   refine wpIn_take (i:=12) (d:=(some 19)) (v:=undef) (a':=?aqa12) rfl rfl (by kernel_rfl) (by kernel_rfl) (by kernel_rfl) (fun _ _ _ h => h) (Or.inr ⟨by rfl,rfl⟩) ?fqa12 ?_
   case fqa12 => (go_frame;rfl)
   refine wpIn_take (i:=13) (d:=(some 20)) (v:=undef) (a':=?aqa13) rfl rfl (by kernel_rfl) (by kernel_rfl) (by kernel_rfl) (fun _ _ _ h => h) (Or.inr ⟨by rfl,rfl⟩) ?fqa13 ?_
   case fqa13 => (go_frame;rfl)
   refine wpIn_take (i:=14) (d:=(some 21)) (v:=undef) (a':=?aqa14) rfl rfl (by kernel_rfl) (by kernel_rfl) (by kernel_rfl) (fun _ _ _ h => h) (Or.inr ⟨by rfl,rfl⟩) ?fqa14 ?_
   case fqa14 => (go_frame;rfl)
   refine wpIn_tk (i:=15) (d:=some 22) rfl ?_
   refine wpIn_do (i:=16) hD1 (by kernel_rfl) rfl (by rfl) ?_
   intro K hK
   go_simp
   go_wp2_with (go_at_call 93;refine (yesIf_any _ _).mono ?_;rintro e w3 ⟨he,hw3⟩;replace he : e = _:=he;subst he;have hbw3 : Below w2.heap.size w2 w3:=hw3 ▸ Below.refl _ _)
   have hD116 : Below W.heap.size W w3:=belowP hD1 hbw3
   refine wpIn_done hD116 (by kernel_rfl) ?_ _
   go_upto_region 3 with (go_at_call 86;refine (HTg1.out _ hD116).mono ?_;rintro e w4 ⟨rfl,hb4⟩)
   have hB4:=belowP hD116 hb4
   cases h3 : (tg.toList == [98,97,110]) with
   | true =>
    have HT : Hid (h.joins = false):=by show _ = _;rw [HJ.out,h3];rfl
    clear HJ
    go_wp2_with (go_at_call 54;refine (noIf_any _ _).mono ?_;rintro e wn ⟨he,rfl⟩;replace he : e = _:=he;subst he)
    exact ⟨rfl,by rw [HT.out],HBW.out _ hB4⟩
   | false =>
    cases h4 : (tg.toList == [106,111,105,110]) with
    | true =>
     have HT : Hid (h.joins = true):=by show _ = _;rw [HJ.out,h3,h4];rfl
     clear HJ
     go_wp2_with (first | (go_at_call 54;refine (noIf_any _ _).mono ?_;rintro e wn ⟨he,rfl⟩;replace he : e = _:=he;subst he) | (go_at_call 93;refine (yesIf_any _ _).mono ?_;rintro e wn ⟨he,rfl⟩;replace he : e = _:=he;subst he))
     exact ⟨rfl,by rw [HT.out],HBW.out _ hB4⟩
    | false =>
     cases h5 : (tg.toList == [105,110,118,105,116,101]) with
     | true =>
      have HT : Hid (h.joins = true):=by show _ = _;rw [HJ.out,h3,h4,h5];rfl
      clear HJ
      go_wp2_with (first | (go_at_call 54;refine (noIf_any _ _).mono ?_;rintro e wn ⟨he,rfl⟩;replace he : e = _:=he;subst he) | (go_at_call 93;refine (yesIf_any _ _).mono ?_;rintro e wn ⟨he,rfl⟩;replace he : e = _:=he;subst he))
      exact ⟨rfl,by rw [HT.out],HBW.out _ hB4⟩
     | false =>
      have HT : Hid (h.joins = (rule.toList == [112,117,98,108,105,99])):=by show _ = _;rw [HJ.out,h3,h4,h5];rfl
      clear HJ
      have zs:=(HX.out w4 hB4).state
      have hTx:=HTx1.out w4 hB4
      go_wp2_with (first | (go_at_call 54;refine (noIf_any _ _).mono ?_;rintro e wn ⟨he,rfl⟩;replace he : e = _:=he;subst he) | (go_at_call 93;refine (yesIf_any _ _).mono ?_;rintro e wn ⟨he,rfl⟩;replace he : e = _:=he;subst he) | (go_at_call 123;refine hTx.mono ?_;rintro e w5 ⟨rfl,hb5⟩) | (go_at_call 50;refine (says_eq _ _).mono ?_;rintro e wn ⟨rfl,rfl⟩))
      exact ⟨rfl,by rw [HT.out],HBW.out _ (belowP hB4 hb5)⟩
  | true =>
   cases bc with
   | false =>
    refine wpIn_tk (i:=0) (d:=some 7) rfl ?_
    refine wpIn_do (i:=1) hD (by kernel_rfl) rfl (by rfl) ?_
    intro K hK
    go_simp
    go_wp2_with (go_at_call 122;refine (HAl1.out _ hD).mono ?_;rintro e w2 ⟨rfl,hbw2⟩)
    have hD1 : Below W.heap.size W w2:=belowP hD hbw2
    refine wpIn_tk (i:=2) (d:=some 9) rfl ?_
    refine wpIn_tk (i:=3) (d:=some 10) rfl ?_
    refine wpIn_tk (i:=4) (d:=some 11) rfl ?_
    refine wpIn_tk (i:=5) (d:=some 12) rfl ?_
    refine wpIn_tk (i:=6) (d:=some 13) rfl ?_
    refine wpIn_tk (i:=7) (d:=some 14) rfl ?_
    refine wpIn_tp (i:=8) (d:=some 15) rfl (by (intro wq hq;have zf:=(HX.out wq hq).csend;go_simp;first | done | with_reducible rfl)) ?_
    refine wpIn_tk (i:=9) (d:=some 16) rfl ?_
    refine wpIn_tk (i:=10) (d:=some 17) rfl ?_
    refine wpIn_tk (i:=11) (d:=some 18) rfl ?_
    refine wpIn_tk (i:=12) (d:=some 19) rfl ?_
    refine wpIn_tp (i:=13) (d:=some 20) rfl (by (intro wq hq;have zf:=(HX.out wq hq).sender;go_simp;first | done | with_reducible rfl)) ?_
    refine wpIn_tk (i:=14) (d:=some 21) rfl ?_
    refine wpIn_tk (i:=15) (d:=some 22) rfl ?_
    refine wpIn_do (i:=16) hD1 (by kernel_rfl) rfl (by rfl) ?_
    intro K hK
    go_simp
    go_wp2_with (go_at_call 93;refine (yesIf_any _ _).mono ?_;rintro e w3 ⟨he,hw3⟩;replace he : e = _:=he;subst he;have hbw3 : Below w2.heap.size w2 w3:=hw3 ▸ Below.refl _ _)
    have hD116 : Below W.heap.size W w3:=belowP hD1 hbw3
    refine wpIn_done hD116 (by kernel_rfl) ?_ _
    go_upto_region 3 with (go_at_call 86;refine (HTg1.out _ hD116).mono ?_;rintro e w4 ⟨rfl,hb4⟩)
    have hB4:=belowP hD116 hb4
    cases h3 : (tg.toList == [98,97,110]) with
    | true =>
     have HT : Hid (h.joins = false):=by show _ = _;rw [HJ.out,h3];rfl
     clear HJ
     go_wp2_with (go_at_call 54;refine (noIf_any _ _).mono ?_;rintro e wn ⟨he,rfl⟩;replace he : e = _:=he;subst he)
     exact ⟨rfl,by rw [HT.out],HBW.out _ hB4⟩
    | false =>
     cases h4 : (tg.toList == [106,111,105,110]) with
     | true =>
      have HT : Hid (h.joins = true):=by show _ = _;rw [HJ.out,h3,h4];rfl
      clear HJ
      go_wp2_with (first | (go_at_call 54;refine (noIf_any _ _).mono ?_;rintro e wn ⟨he,rfl⟩;replace he : e = _:=he;subst he) | (go_at_call 93;refine (yesIf_any _ _).mono ?_;rintro e wn ⟨he,rfl⟩;replace he : e = _:=he;subst he))
      exact ⟨rfl,by rw [HT.out],HBW.out _ hB4⟩
     | false =>
      cases h5 : (tg.toList == [105,110,118,105,116,101]) with
      | true =>
       have HT : Hid (h.joins = true):=by show _ = _;rw [HJ.out,h3,h4,h5];rfl
       clear HJ
       go_wp2_with (first | (go_at_call 54;refine (noIf_any _ _).mono ?_;rintro e wn ⟨he,rfl⟩;replace he : e = _:=he;subst he) | (go_at_call 93;refine (yesIf_any _ _).mono ?_;rintro e wn ⟨he,rfl⟩;replace he : e = _:=he;subst he))
       exact ⟨rfl,by rw [HT.out],HBW.out _ hB4⟩
      | false =>
       have HT : Hid (h.joins = (rule.toList == [112,117,98,108,105,99])):=by show _ = _;rw [HJ.out,h3,h4,h5];rfl
       clear HJ
       have zs:=(HX.out w4 hB4).state
       have hTx:=HTx1.out w4 hB4
       go_wp2_with (first | (go_at_call 54;refine (noIf_any _ _).mono ?_;rintro e wn ⟨he,rfl⟩;replace he : e = _:=he;subst he) | (go_at_call 93;refine (yesIf_any _ _).mono ?_;rintro e wn ⟨he,rfl⟩;replace he : e = _:=he;subst he) | (go_at_call 123;refine hTx.mono ?_;rintro e w5 ⟨rfl,hb5⟩) | (go_at_call 50;refine (says_eq _ _).mono ?_;rintro e wn ⟨rfl,rfl⟩))
       exact ⟨rfl,by rw [HT.out],HBW.out _ (belowP hB4 hb5)⟩
   | true =>
    have HT : Hid (h.joins = true):=by show _ = _;rw [HJ.out];rfl
    clear HJ
    refine wpIn_tk (i:=0) (d:=some 7) rfl ?_
    refine wpIn_do (i:=1) hD (by kernel_rfl) rfl (by rfl) ?_
    intro K hK
    go_simp
    go_wp2_with (go_at_call 122;refine (HAl1.out _ hD).mono ?_;rintro e w2 ⟨rfl,hbw2⟩)
    have hD1 : Below W.heap.size W w2:=belowP hD hbw2
    refine wpIn_tk (i:=2) (d:=some 9) rfl ?_
    refine wpIn_tk (i:=3) (d:=some 10) rfl ?_
    refine wpIn_tk (i:=4) (d:=some 11) rfl ?_
    refine wpIn_tk (i:=5) (d:=some 12) rfl ?_
    refine wpIn_tk (i:=6) (d:=some 13) rfl ?_
    refine wpIn_tk (i:=7) (d:=some 14) rfl ?_
    refine wpIn_tp (i:=8) (d:=some 15) rfl (by (intro wq hq;have zf:=(HX.out wq hq).csend;go_simp;first | done | with_reducible rfl)) ?_
    refine wpIn_tk (i:=9) (d:=some 16) rfl ?_
    refine wpIn_tk (i:=10) (d:=some 17) rfl ?_
    refine wpIn_tk (i:=11) (d:=some 18) rfl ?_
    refine wpIn_tk (i:=12) (d:=some 19) rfl ?_
    refine wpIn_tp (i:=13) (d:=some 20) rfl (by (intro wq hq;have zf:=(HX.out wq hq).sender;go_simp;first | done | with_reducible rfl)) ?_
    refine wpIn_tk (i:=14) (d:=some 21) rfl ?_
    refine wpIn_tk (i:=15) (d:=some 22) rfl ?_
    refine wpIn_do (i:=16) hD1 (by kernel_rfl) rfl (by rfl) ?_
    intro K hK
    go_simp
    go_wp2_with (go_at_call 93;refine (yesIf_any _ _).mono ?_;rintro e w3 ⟨he,hw3⟩;replace he : e = _:=he;subst he;have hbw3 : Below w2.heap.size w2 w3:=hw3 ▸ Below.refl _ _)
    exact ⟨rfl,by rw [HT.out],HBW.out _ (hw3 ▸ belowP hD hbw2)⟩
end
end Go.Proofs.YtldegjjaknelgaaGreatDoor
