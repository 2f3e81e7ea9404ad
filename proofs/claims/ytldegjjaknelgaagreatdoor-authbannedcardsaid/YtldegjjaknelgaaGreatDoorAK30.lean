/-
  Which event makes a room; the levels of an event: by contracts.
  On which types and keys an event hangs: by a contract.
  The examples: what is judged of them.
  Events with their names that are built, rows of them, and rows that are appended to.
  What is heard of an event by a state: by a contract.
-/
import Derived.Test.YtldegjjaknelgaaGreatDoorAK29
import Derived.Laws.AppendOwn
import Derived.Laws.Append
import Derived.OwnWalk
set_option maxRecDepth 100000
set_option maxHeartbeats 16000000
namespace Go.Proofs.YtldegjjaknelgaaGreatDoor
open Go.RowKit
structure IsV (w : World) (eb : Nat) (e : Ev) (p : Pt) : Prop where
 blk : w.heap[eb]? = some (.cells (cellsE e p).toArray 28 (0,0))
 ev : IsE (· < w.heap.size) w e p
section
variable {w : World} {eb : Nat} {e : Ev} {p : Pt}
theorem IsV.below {w' : World} (x : IsV w eb e p) (b : Below w.heap.size w w') : IsV w' eb e p:=⟨(b.block eb (objP_lt x.blk)).trans x.blk,x.ev.carry fun k hk => ⟨Nat.lt_of_lt_of_le hk b.size,b.block k hk⟩⟩
theorem IsV.room (x : IsV w eb e p) : w.cell? ⟨eb,0,none⟩ = some (.string e.room):=cellP x.blk 0 _ rfl
theorem IsV.typ (x : IsV w eb e p) : w.cell? ⟨eb,1,none⟩ = some (.string e.typ):=cellP x.blk 1 _ rfl
theorem IsV.sender (x : IsV w eb e p) : w.cell? ⟨eb,2,none⟩ = some (.string e.sender):=cellP x.blk 2 _ rfl
theorem IsV.isSt (x : IsV w eb e p) : w.cell? ⟨eb,3,none⟩ = some (.bool e.st):=cellP x.blk 3 _ rfl
theorem IsV.key (x : IsV w eb e p) : w.cell? ⟨eb,4,none⟩ = some (.string e.key):=cellP x.blk 4 _ rfl
theorem IsV.prev (x : IsV w eb e p) : w.cell? ⟨eb,10,none⟩ = some (.slice p.pp e.prev.length p.cp):=cellP x.blk 10 _ rfl
theorem IsV.authS (x : IsV w eb e p) : w.cell? ⟨eb,11,none⟩ = some (.slice p.pa e.auth.length p.ca):=cellP x.blk 11 _ rfl
theorem IsV.rangeJ (x : IsV w eb e p) : w.rangeAt eb 5 [.int .i64 e.content.kind,.int .i64 e.content.int,.string e.content.text,.slice p.pk e.content.keys.length p.ck,.slice p.pl e.content.list.length p.cl]:=range_sub x.blk 5 rfl
theorem IsV.rangeE (x : IsV w eb e p) : w.rangeAt eb 0 (cellsE e p):=range_sub x.blk 0 rfl
theorem IsV.runJ (x : IsV w eb e p) : (Instr.loadAt 25 (.pointer (some ⟨eb,5,none⟩))).run Tryz.prog w = .ok (.agg #[.int .i64 e.content.kind,.int .i64 e.content.int,.string e.content.text,.slice p.pk e.content.keys.length p.ck,.slice p.pl e.content.list.length p.cl]) w:=run_loadAt_mid w eb 5 25 [.int .i64 e.content.kind,.int .i64 e.content.int,.string e.content.text,.slice p.pk e.content.keys.length p.ck,.slice p.pl e.content.list.length p.cl] _ x.rangeJ Tryz.underlying25 rfl (by kernel_rfl)
end
theorem isV_new {O : Nat → Prop} {w : World} {e : Ev} {p : Pt} (h : IsE O w e p) (hO : ∀ b,O b → b < w.heap.size) {W : World} (hb : Below w.heap.size w W) (hX : W.heap[w.heap.size]? = some (.cells (cellsE e p).toArray 28 (0,0))) : IsV W w.heap.size e p :=
 ⟨hX,h.carry fun k hk => ⟨Nat.lt_of_lt_of_le (hO k hk) hb.size,hb.block k (hO k hk)⟩⟩
def LevP (w w' : World) (r : Lv × Int) (x : Ending) : Prop:=((r.2 = 0 ∧ ∃ q,x = .returned (valL r.1 q) ∧ IsL (fun b => w.heap.size ≤ b ∧ b < w'.heap.size) w' r.1 q) ∨ (r.2 = 1 ∧ x = thrown false)) ∧ Below w.heap.size w w'
theorem one_L (l : Lv) (p : Pl) : (cellsL l p).toArray.all (·.oneCell') = true:=all_oneCell_toArray fun v hv => by
 simp only [cellsL,List.mem_cons,List.not_mem_nil,or_false] at hv
 rcases hv with rfl | rfl | rfl | rfl | rfl | rfl | rfl | rfl | rfl <;> rfl
theorem loadL_at {w : World} {b o : Nat} {l : Lv} {p : Pl} (h : w.rangeAt b o (cellsL l p)) : (loadVar 47 ⟨b,o,none⟩).run Tryz.prog w = .ok (valL l p) w:=run_loadVar_mid w b o 47 (cellsL l p) _ h Tryz.underlying47 rfl infoL
theorem levelsIn_any {O : Nat → Prop} {w : World} {e : Ev} {p : Pt} (h : IsE O w e p) (hO : ∀ b, O b → b < w.heap.size) (hz : szJ 12 e.content = true) :
    Calls Tryz.prog 83 #[valE e p] w fun x w' => LevP w w' (parseT (ordT e.content)) x:=by
 obtain ⟨W0,hW0⟩ : ∃ W0,W0 = (w.alloc (.cells (cellsE e p).toArray 28)).alloc (.cells #[.int .i64 0,.int .i64 0,.int .i64 0,.int .i64 0,.int .i64 0,.int .i64 0,.int .i64 0,.slice none 0 0,.slice none 0 0] 47):=⟨_,rfl⟩
 have hb0 : Below w.heap.size w W0:=by rw [hW0];exact ((Below.refl _ _).alloc (Nat.le_refl _) _).alloc (by simp) _
 have hX0 : W0.heap[w.heap.size]? = some (.cells (cellsE e p).toArray 28 (0,0)):=by rw [hW0,Below.heap_alloc _ _ _ (by simp)];exact newP _
 have hR0 : W0.heap[w.heap.size + 1]? = some (.cells #[.int .i64 0,.int .i64 0,.int .i64 0,.int .i64 0,.int .i64 0,.int .i64 0,.int .i64 0,.slice none 0 0,.slice none 0 0] 47 (0,0)):=by
  rw [hW0]
  have:=newP (w:=w.alloc (.cells (cellsE e p).toArray 28)) (.cells #[.int .i64 0,.int .i64 0,.int .i64 0,.int .i64 0,.int .i64 0,.int .i64 0,.int .i64 0,.slice none 0 0,.slice none 0 0] 47)
  rw [World.size_alloc] at this
  exact this
 have hV:=isV_new h hO hb0 hX0
 have HR : Hid (W0.rangeAt w.heap.size 5 [.int .i64 e.content.kind,.int .i64 e.content.int,.string e.content.text,.slice p.pk e.content.keys.length p.ck,.slice p.pl e.content.list.length p.cl]):=hV.rangeJ
 have hP:=parse_any (O:=(· < W0.heap.size)) (w:=W0) (c:=e.content) hV.ev.cont (fun _ h => h) hz
 have HRB : Hid (∀ X,Below W0.heap.size W0 X → X.heap[w.heap.size + 1]? = some (.cells #[.int .i64 0,.int .i64 0,.int .i64 0,.int .i64 0,.int .i64 0,.int .i64 0,.int .i64 0,.slice none 0 0,.slice none 0 0] 47 (0,0))):=fun X hX => (hX.block _ (objP_lt hR0)).trans hR0
 have HSZ : Hid (w.heap.size + 2 ≤ W0.heap.size):=by show _ ≤ _;rw [hW0];simp
 have HE : Hid ((parseT (ordT e.content)).2 = 0 ∨ (parseT (ordT e.content)).2 = 1):=parse_err _
 generalize parseT (ordT e.content) = R at hP HE
 obtain ⟨L,E⟩:=R
 simp only at hP HE
 clear h hV hR0 hX0
 unfold valE
 rcases HE.out with rfl | rfl
 · go_enter Tryz.func83,Tryz.ntmps83
   go_upto_region 1 with fail
   rw [← hW0]
   clear hW0
   go_upto_region 2 with (first
    | (refine wpList_load_mid rfl 25 _ rfl w.heap.size 5 rfl _ _ HR.out Tryz.underlying25 rfl (by kernel_rfl) ?_)
    | (go_at_call 120;refine hP.mono ?_;rintro x w1 ⟨⟨q,rfl,hI⟩,hb1⟩)
    | (refine wpList_store_row rfl 47 _ _ rfl w1.heap.size 47 _ (cellsL L q).toArray rfl rfl (newP _) infoL rfl (one_L L q) ?_))
   have hbA : Below w1.heap.size w1 ((w1.alloc (.cells #[.int .i64 0,.int .i64 0,.int .i64 0,.int .i64 0,.int .i64 0,.int .i64 0,.int .i64 0,.slice none 0 0,.slice none 0 0] 47)).setRow w1.heap.size (cellsL L q).toArray) :=
    ((Below.refl _ _).alloc (Nat.le_refl _) _).trans ((keep_setRow _ w1.heap.size _).below (by simp) fun q hq e => by unfold OneP at e;omega)
   have hXA : ((w1.alloc (.cells #[.int .i64 0,.int .i64 0,.int .i64 0,.int .i64 0,.int .i64 0,.int .i64 0,.int .i64 0,.slice none 0 0,.slice none 0 0] 47)).setRow w1.heap.size (cellsL L q).toArray).heap[w1.heap.size]? = some (.cells (cellsL L q).toArray 47 (0,0)):=setRow_heap _ _ _ _ _ _ (newP _)
   generalize (w1.alloc (.cells #[.int .i64 0,.int .i64 0,.int .i64 0,.int .i64 0,.int .i64 0,.int .i64 0,.int .i64 0,.slice none 0 0,.slice none 0 0] 47)).setRow w1.heap.size (cellsL L q).toArray = W1 at hbA hXA
   have HRA : Hid (W1.rangeAt w1.heap.size 0 (cellsL L q)):=range_of hXA
   have HB:=HRB.out W1 (belowP hb1 hbA)
   have HBH:=(show Hid _ from HB)
   clear HB hXA
   go_wp2_with (first
    | (go_at_call 54;refine (noIf_any _ _).mono ?_;rintro e wn ⟨he,rfl⟩;replace he : e = _:=he;subst he)
    | (refine wpList_load_mid rfl 47 _ rfl w1.heap.size 0 rfl (cellsL L q) _ HRA.out Tryz.underlying47 rfl infoL ?_)
    | (refine wpList_store_row rfl 47 _ _ rfl (w.heap.size + 1) 47 _ (cellsL L q).toArray rfl rfl HBH.out infoL rfl (one_L L q) ?_))
   refine bodyPost_ret (resultsP_cell rfl _ _ _ rfl (loadL_at (range_of (setRow_heap _ _ _ _ _ _ HBH.out)))) rfl ?_
   have hbW : Below w.heap.size w W1:=belowP hb0 (belowP hb1 hbA)
   have hkk:=keep_setRow W1 (w.heap.size + 1) (cellsL L q).toArray
   refine ⟨.inl ⟨rfl,q,rfl,hI.carry fun b hb => ?_⟩,hbW.trans (hkk.below hbW.size fun k hk e => by unfold OneP at e;omega)⟩
   have s1:=HSZ.out
   have s2:=hb1.size
   exact ⟨⟨by have:=hb.1;omega,Nat.lt_of_lt_of_le (Nat.lt_of_lt_of_le hb.2 hbA.size) hkk.size⟩,(hkk.block b (Nat.lt_of_lt_of_le hb.2 hbA.size) (by unfold OneP;have:=hb.1;omega)).trans (hbA.block b hb.2)⟩
 · go_enter Tryz.func83,Tryz.ntmps83
   go_upto_region 1 with fail
   rw [← hW0]
   clear hW0
   go_wp2_with (first
    | (refine wpList_load_mid rfl 25 _ rfl w.heap.size 5 rfl _ _ HR.out Tryz.underlying25 rfl (by kernel_rfl) ?_)
    | (go_at_call 120;refine hP.mono ?_;rintro x w1 ⟨⟨q,rfl,hI⟩,hb1⟩)
    | (refine wpList_store_row rfl 47 _ _ rfl w1.heap.size 47 _ (cellsL L q).toArray rfl rfl (newP _) infoL rfl (one_L L q) ?_)
    | (go_at_call 54;refine (noIf_any _ _).mono ?_;rintro e wn ⟨he,rfl⟩;replace he : e = _:=he;subst he))
   refine ⟨rfl,.inr ⟨rfl,rfl⟩,belowP hb0 (belowP hb1 ?_)⟩
   exact ((Below.refl _ _).alloc (Nat.le_refl _) _).trans ((keep_setRow _ w1.heap.size _).below (by simp) fun q hq e => by unfold OneP at e;omega)
abbrev Ent:=ByteArray × ByteArray
def flatE (l : List Ent) : List Value:=l.flatMap fun x => [.string x.1,.string x.2,.string ⟨#[]⟩]
theorem flatE_append (l m : List Ent) : flatE (l ++ m) = flatE l ++ flatE m:=by simp [flatE]
theorem flatE_get : ∀ (l : List Ent) (j : Nat),j < l.length → (flatE l)[j * 3]? = some (.string (l.getD j (nix,nix)).1) ∧ (flatE l)[j * 3 + 1]? = some (.string (l.getD j (nix,nix)).2) ∧ (flatE l)[j * 3 + 2]? = some (.string ⟨#[]⟩)
 | [],j,h => absurd h (by simp)
 | a :: r,0,_ => ⟨rfl,rfl,rfl⟩
 | a :: r,j + 1,h => by
  have:=flatE_get r j (by simpa using h)
  rw [show (j + 1) * 3 = j * 3 + 1 + 1 + 1 by omega]
  exact this
def RdT (O : Nat → Prop) (w : World) (p : Option Addr) (c : Nat) (l : List Ent) : Prop :=
 l.length ≤ c ∧ ∀ j,j < l.length → ∃ b o,p = some ⟨b,o,none⟩ ∧ O b ∧ w.cell? ⟨b,o + j * 3,none⟩ = some (.string (l.getD j (nix,nix)).1) ∧ w.cell? ⟨b,o + j * 3 + 1,none⟩ = some (.string (l.getD j (nix,nix)).2) ∧ w.cell? ⟨b,o + j * 3 + 2,none⟩ = some (.string ⟨#[]⟩)
theorem RdT.nil (O : Nat → Prop) (w : World) (c : Nat) (p : Option Addr) : RdT O w p c []:=⟨Nat.zero_le _,fun j hj => absurd hj (by simp)⟩
theorem RdT.carry {O O' : Nat → Prop} {w w' : World} {p : Option Addr} {c : Nat} {l : List Ent} (h : RdT O w p c l) (hO : ∀ k,O k → O' k ∧ w'.heap[k]? = w.heap[k]?) : RdT O' w' p c l :=
 ⟨h.1,fun j hj => by
  obtain ⟨b,o,hp,hB,h1,h2,h3⟩:=h.2 j hj
  exact ⟨b,o,hp,(hO _ hB).1,(World.cell?_of_block (a:=⟨b,o + j * 3,none⟩) (hO _ hB).2).trans h1,(World.cell?_of_block (a:=⟨b,o + j * 3 + 1,none⟩) (hO _ hB).2).trans h2,(World.cell?_of_block (a:=⟨b,o + j * 3 + 2,none⟩) (hO _ hB).2).trans h3⟩⟩
def wantT (e : Ev) : List Ent:=if eqT e.typ tCreate then [] else
 [(tCreate,⟨#[]⟩),(tPower,⟨#[]⟩),(tMember,e.sender)] ++
  (if e.st && eqT e.typ tMember then (if eqT e.key e.sender then [] else [(tMember,e.key)]) ++ (if eqT (textT e.content nMemb) vJoin || eqT (textT e.content nMemb) vInvite then [(tRules,⟨#[]⟩)] else []) else [])
theorem rdT_of_own {w : World} {base : Nat} {v : Value} {l : List Ent} (h : w.ownsRow base 39 3 v l.length (flatE l)) : ∃ q c,v = .slice q l.length c ∧ RdT (fun b => base ≤ b ∧ b < w.heap.size) w q c l:=by
 obtain ⟨_,⟨rfl,h0⟩ | ⟨g,cap,cur,rfl,hb,hg,hn,_,hc,ht⟩⟩:=h
 · obtain rfl : l = []:=List.eq_nil_of_length_eq_zero h0
   exact ⟨none,0,rfl,RdT.nil _ _ _ _⟩
 · refine ⟨_,_,rfl,hn,fun j hj => ?_⟩
   obtain ⟨g1,g2,g3⟩:=flatE_get l j hj
   rw [← ht,List.getElem?_take,if_pos (by omega)] at g1 g2 g3
   refine ⟨g,0,rfl,⟨hb,objP_lt hg⟩,?_,?_,?_⟩
   · rw [Nat.zero_add]
     exact cellP hg (j * 3) _ (by simpa using g1)
   · rw [Nat.zero_add]
     exact cellP hg (j * 3 + 1) _ (by simpa using g2)
   · rw [Nat.zero_add]
     exact cellP hg (j * 3 + 2) _ (by simpa using g3)
theorem infoEnt : (Tryz.prog.info? 39).map (fun i => (i.size,i.bytes,i.zero)) = some (3,48,some (.agg #[.string ⟨#[]⟩,.string ⟨#[]⟩,.string ⟨#[]⟩])):=by kernel_rfl
theorem wpList_append_ent {w : World} {ops : Array Oper} {rest : List Oper} {o : Oper} {a : Act} {Q : Exit → Act → World → Prop} (hgd : o.guard = none) (s x : Operand)
    (ho : o.op = .call { callee:=.builtin .append,args:=#[s,x],argTypes:=#[36,36] })
    (base : Nat) (v : Value) (L : List Ent) (hs : a.eval s = v) (hown : w.ownsRow base 39 3 v L.length (flatE L)) (g c : Nat) (y : Ent) (hx : a.eval x = .slice (some ⟨g,0,none⟩) 1 c) (hg : w.heap[g]? = some (.cells #[.string y.1,.string y.2,.string ⟨#[]⟩] 39 (0,0)))
    (hlen : L.length ≤ 100000) (hbase : base ≤ w.heap.size)
    (h : ∀ v' w',w'.ownsRow base 39 3 v' (L ++ [y]).length (flatE (L ++ [y])) → w.grownBy w' v.ownBlock → wpList Tryz.prog ops Q rest (a.put o.dst v') w') : wpList Tryz.prog ops Q (o :: rest) a w:=by
 obtain ⟨i,hi,hi2⟩:=Option.map_eq_some_iff.1 infoEnt
 simp only [Prod.mk.injEq] at hi2
 obtain ⟨hz0,hz1,hz2⟩:=hi2
 refine wpList_append_own w hgd s x 36 ho base 39 i _ 3 48 Tryz.underlying36 hi hz2 hz0 hz1 rfl (by decide) v L.length (flatE L) hs hown ⟨g,0,none⟩ 1 c [.string y.1,.string y.2,.string ⟨#[]⟩] hx rfl (fun j u hu => ?_) (fun u hu => ?_) (by unfold maxLen;omega) (by omega) hbase ?_
 · have ea : (⟨g,0,none⟩ : Addr).add j = ⟨g,j,none⟩:=by unfold Addr.add;split <;> simp_all
   rw [ea]
   exact cellP hg j u (by simpa using hu)
 · simp only [List.mem_cons,List.not_mem_nil,or_false] at hu
   rcases hu with rfl | rfl | rfl <;> rfl
 · intro v' w' hown' hgrow _
   exact h v' w' (by rw [List.length_append,flatE_append];exact hown') hgrow
theorem grown_below {w w' : World} {row : Option Nat} {B : Nat} (h : w.grownBy w' row) (hB : B ≤ w.heap.size) (hr : ∀ k,row = some k → B ≤ k) : Below B w w' :=
 ⟨h.os,h.tape,h.output,h.size,fun k hk => h.block k (Nat.lt_of_lt_of_le hk hB) fun e => by have:=hr k e.symm;omega⟩
theorem wanted_any {O : Nat → Prop} {w : World} {e : Ev} {p : Pt} (h : IsE O w e p) (hO : ∀ b, O b → b < w.heap.size) (hz : SzE e) :
    Calls Tryz.prog 14 #[valE e p] w fun x w' => (∃ q c,x = .returned (.slice q (wantT e).length c) ∧ RdT (fun b => w.heap.size ≤ b ∧ b < w'.heap.size) w' q c (wantT e)) ∧ Below w.heap.size w w':=by
 obtain ⟨W0,hW0⟩ : ∃ W0,W0 = w.alloc (.cells (cellsE e p).toArray 28):=⟨_,rfl⟩
 have hb0 : Below w.heap.size w W0:=by rw [hW0];exact (Below.refl _ _).alloc (Nat.le_refl _) _
 have hX0 : W0.heap[w.heap.size]? = some (.cells (cellsE e p).toArray 28 (0,0)):=by rw [hW0];exact newP _
 have HS0 : Hid (W0.heap.size = w.heap.size + 1):=by show _ = _;rw [hW0];simp
 have hV:=isV_new h hO hb0 hX0
 have HV : Hid (∀ X,Below W0.heap.size W0 X → IsV X w.heap.size e p):=fun X hX => hV.below hX
 have HTx : Hid (∀ X,Below W0.heap.size W0 X → Calls Tryz.prog 31 #[.agg #[.int .i64 e.content.kind,.int .i64 e.content.int,.string e.content.text,.slice p.pk e.content.keys.length p.ck,.slice p.pl e.content.list.length p.cl],.string nMemb] X fun x w' => x = .returned (.string (textT e.content nMemb)) ∧ Below X.heap.size X w'):=fun X hX => atext_any (O:=(· < X.heap.size)) (j:=e.content) (HV.out X hX).ev.cont (fun _ h => h) (szP_keys hz.cont) nMemb
 have HW : Hid (wantT e = if eqT e.typ tCreate then [] else [(tCreate,⟨#[]⟩),(tPower,⟨#[]⟩),(tMember,e.sender)] ++ (if e.st && eqT e.typ tMember then (if eqT e.key e.sender then [] else [(tMember,e.key)]) ++ (if eqT (textT e.content nMemb) vJoin || eqT (textT e.content nMemb) vInvite then [(tRules,⟨#[]⟩)] else []) else [])):=rfl
 have HEND : Hid (∀ (l : List Ent) v W,wantT e = l → W.ownsRow W0.heap.size 39 3 v l.length (flatE l) → Below W0.heap.size W0 W → (∃ q c,Ending.returned v = .returned (.slice q (wantT e).length c) ∧ RdT (fun b => w.heap.size ≤ b ∧ b < W.heap.size) W q c (wantT e)) ∧ Below w.heap.size w W):=fun l v W hl ho hb => by
  obtain ⟨q,c,rfl,hr⟩:=rdT_of_own ho
  rw [hl]
  exact ⟨⟨q,c,rfl,hr.carry fun k hk => ⟨⟨Nat.le_trans hb0.size hk.1,hk.2⟩,rfl⟩⟩,belowP hb0 hb⟩
 have et:=hV.typ
 clear h hV hX0 hz
 unfold valE
 unfold eqT at HW
 rw [lit_tCreate,lit_tMember,lit_vJoin,lit_vInvite] at HW
 cases hc : (e.typ.toList == [109,46,114,111,111,109,46,99,114,101,97,116,101]) with
 | true =>
  have HT : Hid (wantT e = []):=by show _ = _;rw [HW.out,if_pos hc]
  go_enter Tryz.func14,Tryz.ntmps14
  go_upto_region 1 with fail
  rw [← hW0]
  clear hW0
  go_wp2
  go_ret
  exact HEND.out [] _ _ HT.out (World.ownsRow_nil _ _ _ _) (Below.refl _ _)
 | false =>
  have HT : Hid (wantT e = [(tCreate,⟨#[]⟩),(tPower,⟨#[]⟩),(tMember,e.sender)] ++ (if e.st && (e.typ.toList == [109,46,114,111,111,109,46,109,101,109,98,101,114]) then (if e.key.toList == e.sender.toList then [] else [(tMember,e.key)]) ++ (if (textT e.content nMemb).toList == [106,111,105,110] || (textT e.content nMemb).toList == [105,110,118,105,116,101] then [(tRules,⟨#[]⟩)] else []) else [])):=by show _ = _;rw [HW.out,if_neg (by rw [hc];decide)]
  clear HW
  have es:=(HV.out W0 (Below.refl _ _)).sender
  go_enter Tryz.func14,Tryz.ntmps14
  go_upto_region 1 with fail
  rw [← hW0]
  clear hW0
  go_upto_region 4 with fail
  obtain ⟨W1,hW1⟩ : ∃ W1,W1 = W0.alloc (.cells #[.string tCreate,.string ⟨#[]⟩,.string ⟨#[]⟩,.string tPower,.string ⟨#[]⟩,.string ⟨#[]⟩,.string tMember,.string e.sender,.string ⟨#[]⟩] 39):=⟨_,rfl⟩
  have hb1 : Below W0.heap.size W0 W1:=by rw [hW1];exact (Below.refl _ _).alloc (Nat.le_refl _) _
  have hX1 : W1.heap[W0.heap.size]? = some (.cells #[.string tCreate,.string ⟨#[]⟩,.string ⟨#[]⟩,.string tPower,.string ⟨#[]⟩,.string ⟨#[]⟩,.string tMember,.string e.sender,.string ⟨#[]⟩] 39 (0,0)):=by rw [hW1];exact newP _
  have HO1 : Hid (W1.ownsRow W0.heap.size 39 3 (.slice (some ⟨W0.heap.size,0,none⟩) 3 3) 3 (flatE [(tCreate,⟨#[]⟩),(tPower,⟨#[]⟩),(tMember,e.sender)])):=⟨rfl,.inr ⟨W0.heap.size,3,_,rfl,Nat.le_refl _,hX1,Nat.le_refl _,by decide,rfl,rfl⟩⟩
  change Code.wp _ _ _ _ (W0.alloc (.cells #[.string tCreate,.string ⟨#[]⟩,.string ⟨#[]⟩,.string tPower,.string ⟨#[]⟩,.string ⟨#[]⟩,.string tMember,.string e.sender,.string ⟨#[]⟩] 39))
  rw [← hW1]
  clear hW1 hX1 et es
  have hV1:=HV.out W1 hb1
  have et:=hV1.typ
  have est:=hV1.isSt
  have ek:=hV1.key
  have es:=hV1.sender
  have HRJ:=(show Hid _ from hV1.rangeJ)
  clear hV1
  generalize hst : e.st = st at est HT
  cases st with
  | false =>
   go_wp2
   go_ret
   exact HEND.out _ _ _ HT.out HO1.out hb1
  | true =>
   cases hm : (e.typ.toList == [109,46,114,111,111,109,46,109,101,109,98,101,114]) with
   | false =>
    go_wp2
    go_ret
    refine HEND.out _ _ _ ?_ HO1.out hb1
    rw [HT.out,hm]
    rfl
   | true =>
    have HT2 : Hid (wantT e = [(tCreate,⟨#[]⟩),(tPower,⟨#[]⟩),(tMember,e.sender)] ++ ((if e.key.toList == e.sender.toList then [] else [(tMember,e.key)]) ++ (if (textT e.content nMemb).toList == [106,111,105,110] || (textT e.content nMemb).toList == [105,110,118,105,116,101] then [(tRules,⟨#[]⟩)] else []))):=by show _ = _;rw [HT.out,hm];rfl
    clear HT
    generalize textT e.content nMemb = m at HTx HT2
    cases hk : (e.key.toList == e.sender.toList) with
    | true =>
     have hTx:=HTx.out W1 hb1
     rw [hk] at HT2
     go_upto_region 9 with (first
      | (refine wpList_load_mid rfl 25 _ rfl w.heap.size 5 rfl _ _ HRJ.out Tryz.underlying25 rfl (by kernel_rfl) ?_)
      | (go_at_call 31;refine hTx.mono ?_;rintro x W2 ⟨rfl,hb2⟩))
     have hB2 : Below W0.heap.size W0 W2:=belowP hb1 hb2
     have HO2 : Hid (W2.ownsRow W0.heap.size 39 3 (.slice (some ⟨W0.heap.size,0,none⟩) 3 3) [(tCreate,⟨#[]⟩),(tPower,⟨#[]⟩),(tMember,e.sender)].length (flatE [(tCreate,⟨#[]⟩),(tPower,⟨#[]⟩),(tMember,e.sender)])):=by
      obtain ⟨h1,⟨h2,_⟩ | ⟨g,cap,cur,h2,h3,h4,h5⟩⟩:=HO1.out
      · cases h2
      · exact ⟨h1,.inr ⟨g,cap,cur,h2,h3,(hb2.block g (objP_lt h4)).trans h4,h5⟩⟩
     cases hj : (m.toList == [106,111,105,110]) with
     | true =>
      go_wp2_with (refine wpList_append_ent rfl _ _ rfl W0.heap.size (.slice (some ⟨W0.heap.size,0,none⟩) 3 3) [(tCreate,⟨#[]⟩),(tPower,⟨#[]⟩),(tMember,e.sender)] rfl ((HO2.out).alloc _) W2.heap.size 1 (tRules,⟨#[]⟩) rfl (newP _) (by simp) (by simp;exact Nat.le_trans hB2.size (Nat.le_succ _)) fun v9 W9 ho9 hg9 => ?_)
      go_ret
      exact HEND.out _ _ _ (by rw [HT2.out,hj];rfl) ho9 (hB2.trans (((Below.refl W0.heap.size W2).alloc hB2.size _).trans (grown_below hg9 (by simp;exact Nat.le_trans hB2.size (Nat.le_succ _)) fun k hk => (HO2.out.lt k hk).1)))
     | false =>
      cases hi : (m.toList == [105,110,118,105,116,101]) with
      | true =>
       go_wp2_with (refine wpList_append_ent rfl _ _ rfl W0.heap.size (.slice (some ⟨W0.heap.size,0,none⟩) 3 3) [(tCreate,⟨#[]⟩),(tPower,⟨#[]⟩),(tMember,e.sender)] rfl ((HO2.out).alloc _) W2.heap.size 1 (tRules,⟨#[]⟩) rfl (newP _) (by simp) (by simp;exact Nat.le_trans hB2.size (Nat.le_succ _)) fun v9 W9 ho9 hg9 => ?_)
       go_ret
       exact HEND.out _ _ _ (by rw [HT2.out,hj,hi];rfl) ho9 (hB2.trans (((Below.refl W0.heap.size W2).alloc hB2.size _).trans (grown_below hg9 (by simp;exact Nat.le_trans hB2.size (Nat.le_succ _)) fun k hk => (HO2.out.lt k hk).1)))
      | false =>
       go_wp2
       go_ret
       exact HEND.out _ _ _ (by rw [HT2.out,hj,hi];rfl) HO2.out hB2
    | false =>
     rw [hk] at HT2
     go_upto_region 8 with (refine wpList_append_ent rfl _ _ rfl W0.heap.size (.slice (some ⟨W0.heap.size,0,none⟩) 3 3) [(tCreate,⟨#[]⟩),(tPower,⟨#[]⟩),(tMember,e.sender)] rfl ((HO1.out).alloc _) W1.heap.size 1 (tMember,e.key) rfl (newP _) (by simp) (by simp;exact Nat.le_trans hb1.size (Nat.le_succ _)) fun v1 W2 ho2 hg2 => ?_)
     have hB2 : Below W0.heap.size W0 W2:=hb1.trans (((Below.refl W0.heap.size W1).alloc hb1.size _).trans (grown_below hg2 (by simp;exact Nat.le_trans hb1.size (Nat.le_succ _)) fun k hk => (HO1.out.lt k hk).1))
     have HO2 : Hid (W2.ownsRow W0.heap.size 39 3 v1 ([(tCreate,⟨#[]⟩),(tPower,⟨#[]⟩),(tMember,e.sender)] ++ [(tMember,e.key)]).length (flatE ([(tCreate,⟨#[]⟩),(tPower,⟨#[]⟩),(tMember,e.sender)] ++ [(tMember,e.key)]))):=ho2
     have hTx:=HTx.out W2 hB2
     have HRJ2:=(show Hid _ from (HV.out W2 hB2).rangeJ)
     clear ho2 hg2 HRJ HO1 hb1 et est ek es
     go_upto_region 9 with (first
      | (refine wpList_load_mid rfl 25 _ rfl w.heap.size 5 rfl _ _ HRJ2.out Tryz.underlying25 rfl (by kernel_rfl) ?_)
      | (go_at_call 31;refine hTx.mono ?_;rintro x W3 ⟨rfl,hb3⟩))
     have hB3 : Below W0.heap.size W0 W3:=belowP hB2 hb3
     have HO3 : Hid (W3.ownsRow W0.heap.size 39 3 v1 ([(tCreate,⟨#[]⟩),(tPower,⟨#[]⟩),(tMember,e.sender)] ++ [(tMember,e.key)]).length (flatE ([(tCreate,⟨#[]⟩),(tPower,⟨#[]⟩),(tMember,e.sender)] ++ [(tMember,e.key)]))):=by
      obtain ⟨h1,⟨h2,h3⟩ | ⟨g,cap,cur,h2,h3,h4,h5⟩⟩:=HO2.out
      · exact ⟨h1,.inl ⟨h2,h3⟩⟩
      · exact ⟨h1,.inr ⟨g,cap,cur,h2,h3,(hb3.block g (objP_lt h4)).trans h4,h5⟩⟩
     cases hj : (m.toList == [106,111,105,110]) with
     | true =>
      go_wp2_with (refine wpList_append_ent rfl _ _ rfl W0.heap.size v1 ([(tCreate,⟨#[]⟩),(tPower,⟨#[]⟩),(tMember,e.sender)] ++ [(tMember,e.key)]) rfl ((HO3.out).alloc _) W3.heap.size 1 (tRules,⟨#[]⟩) rfl (newP _) (by simp) (by simp;exact Nat.le_trans hB3.size (Nat.le_succ _)) fun v9 W9 ho9 hg9 => ?_)
      go_ret
      exact HEND.out _ _ _ (by rw [HT2.out,hj];rfl) ho9 (hB3.trans (((Below.refl W0.heap.size W3).alloc hB3.size _).trans (grown_below hg9 (by simp;exact Nat.le_trans hB3.size (Nat.le_succ _)) fun k hk => (HO3.out.lt k hk).1)))
     | false =>
      cases hi : (m.toList == [105,110,118,105,116,101]) with
      | true =>
       go_wp2_with (refine wpList_append_ent rfl _ _ rfl W0.heap.size v1 ([(tCreate,⟨#[]⟩),(tPower,⟨#[]⟩),(tMember,e.sender)] ++ [(tMember,e.key)]) rfl ((HO3.out).alloc _) W3.heap.size 1 (tRules,⟨#[]⟩) rfl (newP _) (by simp) (by simp;exact Nat.le_trans hB3.size (Nat.le_succ _)) fun v9 W9 ho9 hg9 => ?_)
       go_ret
       exact HEND.out _ _ _ (by rw [HT2.out,hj,hi];rfl) ho9 (hB3.trans (((Below.refl W0.heap.size W3).alloc hB3.size _).trans (grown_below hg9 (by simp;exact Nat.le_trans hB3.size (Nat.le_succ _)) fun k hk => (HO3.out.lt k hk).1)))
      | false =>
       go_wp2
       go_ret
       exact HEND.out _ _ _ (by rw [HT2.out,hj,hi];rfl) HO3.out hB3
abbrev uA : ByteArray:=⟨#[64,97,58,115,49]⟩
abbrev uB : ByteArray:=⟨#[64,98,58,115,50]⟩
abbrev nm1 : ByteArray:=⟨#[36,65,65,65,65,65,65,65,65,65,65,69]⟩
abbrev nm2 : ByteArray:=⟨#[36,65,65,65,65,65,65,65,65,65,65,73]⟩
abbrev exC : Ev:=stE tCreate ⟨#[]⟩ uA (oneJ nCreator uA)
abbrev exJ0 : Ev:=stE tMember uA uA (oneJ nMemb vJoin)
abbrev exJ : Ev:=⟨⟨#[33,114,58,115,49]⟩,tMember,uA,true,uA,oneJ nMemb vJoin,[nm1],[],0,0,nix,[]⟩
abbrev exM : Ev:=⟨⟨#[33,114,58,115,49]⟩,⟨#[109,46,114,111,111,109,46,109,101,115,115,97,103,101]⟩,uB,false,⟨#[]⟩,.mk 5 0 ⟨#[]⟩ [] [],[],[],0,0,⟨#[]⟩,[]⟩
abbrev exB : Ev:=stE tMember uA uA (oneJ nMemb vBan)
theorem shaped_C : shapedE exC = true:=by kernel_rfl
theorem shaped_J : shapedE exJ = true:=by kernel_rfl
theorem shaped_M : shapedE exM = true:=by kernel_rfl
theorem shaped_B : shapedE exB = true:=by kernel_rfl
theorem ask_C : askT exC [] = true:=by kernel_rfl
theorem ask_J : askT exJ [(nm1,exC)] = true:=by kernel_rfl
theorem ask_M : askT exM [(nm1,exC),(nm2,exJ)] = false:=by kernel_rfl
theorem ask_B : askT exB [(nm1,exC),(nm2,exJ)] = false:=by kernel_rfl
theorem want_J : (wantT exJ).length = 4:=by kernel_rfl
theorem judge_C : judgeT exC [] = 0:=by unfold judgeT;rw [shaped_C,ask_C];rfl
theorem judge_J : judgeT exJ [(nm1,exC)] = 0:=by unfold judgeT;rw [shaped_J,ask_J];rfl
theorem judge_M : judgeT exM [(nm1,exC),(nm2,exJ)] = 110:=by unfold judgeT;rw [shaped_M,ask_M];rfl
theorem judge_B : judgeT exB [(nm1,exC),(nm2,exJ)] = 110:=by unfold judgeT;rw [shaped_B,ask_B];rfl
theorem run_buildK (w : World) (s : ByteArray) (e : Ev) (p : Pt) : (Instr.build 41 #[(0,.string s),(1,valE e p)]).run Tryz.prog w = .ok (valK (s,e) p) w:=by kernel_rfl
theorem run_rowK (w : World) (k : Kn) (q : Pt) : (Instr.buildSlice 29 1 #[(0,valK k q)]).run Tryz.prog w = .ok (.slice (some ⟨w.heap.size,0,none⟩) 1 1) (w.alloc (.cells (cellsK k q).toArray 41)):=by kernel_rfl
section
variable {ops : Array Oper} {rest : List Oper} {op : Oper} {a : Act} {w : World} {Q : Exit → Act → World → Prop}
theorem wpList_buildK (hgd : op.guard = none) (x y : Operand) (ho : op.op = .build 41 #[(0, x), (1, y)]) (s : ByteArray) (e : Ev) (p : Pt) (hx : a.eval x = .string s) (hy : a.eval y = valE e p)
    (h : wpList Tryz.prog ops Q rest (a.put op.dst (valK (s,e) p)) w) : wpList Tryz.prog ops Q (op :: rest) a w:=by
 refine wpList_plain hgd fun K hK => ?_
 unfold Oper.wp
 simp [execOp,ho,hx,hy,run_buildK]
 exact hK _ _ h
theorem wpList_rowK (hgd : op.guard = none) (x : Operand) (ho : op.op = .buildSlice 29 1 #[(0, x)]) (k : Kn) (q : Pt) (hx : a.eval x = valK k q)
    (h : wpList Tryz.prog ops Q rest (a.put op.dst (.slice (some ⟨w.heap.size,0,none⟩) 1 1)) (w.alloc (.cells (cellsK k q).toArray 41))) : wpList Tryz.prog ops Q (op :: rest) a w:=by
 refine wpList_plain hgd fun K hK => ?_
 unfold Oper.wp
 simp [execOp,ho,hx,run_rowK]
 exact hK _ _ h
end
theorem wpList_buildKo {ops : Array Oper} {rest : List Oper} {op : Oper} {a : Act} {w : World} {Q : Exit → Act → World → Prop} (hgd : op.guard = none) (x y : Operand) (ho : op.op = .build 41 #[(0, x), (1, y)]) (s : ByteArray) (e : Ev) (p : Pt) (L : List Value) (hL : L = cellsE e p) (hx : a.eval x = .string s) (hy : a.eval y = .agg L.toArray)
    (h : ∀ M : List Value,Hid (M = cellsK (s,e) p) → wpList Tryz.prog ops Q rest (a.put op.dst (.agg M.toArray)) w) : wpList Tryz.prog ops Q (op :: rest) a w:=by
 subst hL
 exact wpList_buildK hgd x y ho s e p hx hy (h _ rfl)
theorem wpList_rowKo {ops : Array Oper} {rest : List Oper} {op : Oper} {a : Act} {w : World} {Q : Exit → Act → World → Prop} (hgd : op.guard = none) (x : Operand) (ho : op.op = .buildSlice 29 1 #[(0, x)]) (k : Kn) (q : Pt) (M : List Value) (hM : M = cellsK k q) (hx : a.eval x = .agg M.toArray)
    (h : wpList Tryz.prog ops Q rest (a.put op.dst (.slice (some ⟨w.heap.size,0,none⟩) 1 1)) (w.alloc (.cells M.toArray 41))) : wpList Tryz.prog ops Q (op :: rest) a w:=by
 subst hM
 exact wpList_rowK hgd x ho k q hx h
theorem infoKn : (Tryz.prog.info? 41).map (fun i => (i.zero,i.size,i.bytes)) = some (some (valK zK Pt.zero),17,272):=by kernel_rfl
theorem wpList_twoK {ops : Array Oper} {rest : List Oper} {o : Oper} {a : Act} {w : World} {Q : Exit → Act → World → Prop} (hgd : o.guard = none) (s x : Operand)
    (ho : o.op = .call { callee:=.builtin .append,args:=#[s,x],argTypes:=#[29,29] })
    (b1 b2 : Nat) (k1 k2 : Kn) (q1 q2 : Pt) (hs : a.eval s = .slice (some ⟨b1,0,none⟩) 1 1) (hx : a.eval x = .slice (some ⟨b2,0,none⟩) 1 1)
    (h1 : w.heap[b1]? = some (.cells (cellsK k1 q1).toArray 41 (0,0))) (h2 : w.heap[b2]? = some (.cells (cellsK k2 q2).toArray 41 (0,0)))
    (h : ∀ c w',2 ≤ c → Below w.heap.size w w' → (∀ n v,(cellsK k1 q1)[n]? = some v → w'.cell? ⟨w.heap.size,n,none⟩ = some v) → (∀ n v,(cellsK k2 q2)[n]? = some v → w'.cell? ⟨w.heap.size,17 + n,none⟩ = some v) → wpList Tryz.prog ops Q rest (a.put o.dst (.slice (some ⟨w.heap.size,0,none⟩) 2 c)) w') : wpList Tryz.prog ops Q (o :: rest) a w:=by
 obtain ⟨i,hi,hz,hsz,hby⟩:=info_parts infoKn
 have hadd : ∀ b m,(⟨b,0,none⟩ : Addr).add m = ⟨b,m,none⟩:=fun b m => by unfold Addr.add;split <;> simp_all
 have hr0:=run_append_grow (P:=Tryz.prog) (w:=w) 29 o.type 41 i _ Tryz.underlying29 hi hz ⟨b1,0,none⟩ 1 1 (cellsK k1 q1) (by rw [hsz];rfl) (fun j v hv => by rw [hadd];exact cellP h1 j v (by simpa using hv)) ⟨b2,0,none⟩ 1 1 (cellsK k2 q2) (by rw [hsz];rfl) (fun j v hv => by rw [hadd];exact cellP h2 j v (by simpa using hv)) (by decide) (by decide) (by rw [hby];decide)
 obtain ⟨c,hc⟩ : ∃ c,c = grownCap w (1 + 1) 1 41:=⟨_,rfl⟩
 have hc2 : 2 ≤ c:=by rw [hc];exact grownCap_ge w 2 1 41
 rw [← hc] at hr0
 obtain ⟨cur,hcur⟩ : ∃ cur,cur = (cellsK k1 q1).toArray ++ (cellsK k2 q2).toArray ++ Builtin.zeroCells (valK zK Pt.zero).cells (c - (1 + 1)):=⟨_,rfl⟩
 rw [← hcur] at hr0
 have hr : (Builtin.append_ #[29,29] o.type #[.slice (some ⟨b1,0,none⟩) 1 1,.slice (some ⟨b2,0,none⟩) 1 1]).run Tryz.prog w = .ok (.slice (some ⟨w.heap.size,0,none⟩) 2 c) (w.drew.alloc (.cells cur 41)):=hr0
 have hN : (w.drew.alloc (.cells cur 41)).heap[w.heap.size]? = some (.cells cur 41 (0,0)):=newP (w:=w.drew) (.cells cur 41)
 have h17 : (cellsK k1 q1).length = 17:=rfl
 have hgo:=h c (w.drew.alloc (.cells cur 41)) hc2 ((Below.refl _ _).drew.alloc (Nat.le_refl _) _) (fun n v hv => by
  refine cellP hN n v ?_
  have hn : n < (cellsK k1 q1).length:=(List.getElem?_eq_some_iff.1 hv).1
  rw [hcur,Array.getElem?_append_left (by simp;omega),Array.getElem?_append_left (by simpa using hn)]
  simpa using hv) (fun n v hv => by
  refine cellP hN (17 + n) v ?_
  have hn : n < (cellsK k2 q2).length:=(List.getElem?_eq_some_iff.1 hv).1
  rw [hcur,Array.getElem?_append_left (by simp;omega),Array.getElem?_append_right (by simp;omega)]
  simpa [h17] using hv)
 clear hr0 hcur hN h
 refine wpList_plain hgd fun K hK => ?_
 unfold Oper.wp
 simp [execOp,ho,resolve,invoke,builtin,hs,hx,hr,Result.andThen]
 exact hK _ _ hgo
def OpenP (w' : World) : Option Hr → Ending → Prop
 | none,x => x = thrown false
 | some H,x => ∃ hb P,x = .returned (.pointer (some ⟨hb,0,none⟩)) ∧ IsH w' hb H P
theorem szL_startH {s : ByteArray} (h : s.size ≤ 1000000000) : SzL (startL s):=⟨⟨by simp,fun p hp => by simp at hp;subst hp;exact h⟩,⟨by simp,fun p hp => by simp at hp⟩⟩
theorem open_sz {e : Ev} {l : List Kn} {H : Hr} (hz : SzE e) (hk : SzK l) (h : openT e l = some H) : SzH H:=by
 unfold openT at h
 split at h
 · cases h
 · rename_i c hc
   split at h
   · split at h
     · cases h
     · rename_i v hv
       cases h
       refine ⟨hz,hk,?_⟩
       unfold levT at hv
       split at hv
       · rename_i k hf
         split at hv
         · cases hv
           exact parse_sz (sz_less 12 13 _ (by decide) (hk.cont k (List.mem_of_find?_eq_some hf)))
         · cases hv
       · cases hv
         exact szL_startH (hk.snd c (List.mem_of_find?_eq_some hc))
   · cases h
end Go.Proofs.YtldegjjaknelgaaGreatDoor
