/-
  The examples hold: by a contract.
  How many of so many values are left (the law of events), by a contract.
  Which events are small, by a contract.
-/
import Derived.Test.YtldegjjaknelgaaGreatDoorAK34
set_option maxRecDepth 100000
set_option maxHeartbeats 16000000
namespace Go.Proofs.YtldegjjaknelgaaGreatDoor
open Go.RowKit
theorem isE_st {w w' : World} {kind key sender kk s : ByteArray} {pk pl : Option Addr} {ck cl : Nat} {e : Ev} (he : e = stE kind key sender (oneJ kk s)) (h : isJ (· < w.heap.size) w (oneJ kk s) [.int .i64 5,.int .i64 0,.string nix,.slice pk 1 ck,.slice pl 1 cl]) (hb : Below w.heap.size w w') : IsE (· < w'.heap.size) w' e ⟨pk,ck,pl,cl,none,0,none,0,none,0⟩:=by
 subst he
 exact ⟨h.carry fun k hk => ⟨Nat.lt_of_lt_of_le hk hb.size,hb.block k hk⟩,RdK.nil _ _,RdK.nil _ _,RdS.nil _ _ _ _⟩
theorem ev_new {w : World} {e : Ev} {p : Pt} (z : Array Value) (h : IsE (· < w.heap.size) w e p) : Below w.heap.size w ((w.alloc (.cells z 28)).setRow w.heap.size (cellsE e p).toArray) ∧ IsV ((w.alloc (.cells z 28)).setRow w.heap.size (cellsE e p).toArray) w.heap.size e p:=by
 have hb : Below w.heap.size w ((w.alloc (.cells z 28)).setRow w.heap.size (cellsE e p).toArray):=((Below.refl _ _).alloc (Nat.le_refl _) _).trans ((keep_setRow _ w.heap.size _).below (by simp) fun q hq e => by unfold OneP at e;omega)
 exact ⟨hb,isV_new h (fun _ h => h) hb (setRow_heap _ _ _ _ _ _ (newP _))⟩
theorem state11_op (kind key sender kk s : ByteArray) (pk : Option Addr) (ck : Nat) (pl : Option Addr) (cl : Nat) (w : World) : Calls Tryz.prog 29 #[.string kind, .string key, .string sender, .agg #[.int .i64 5, .int .i64 0, .string nix, .slice pk 1 ck, .slice pl 1 cl]] w fun x w' =>
    (∃ L : List Value,x = .returned (.agg L.toArray) ∧ Hid (L = cellsE (stE kind key sender (oneJ kk s)) ⟨pk,ck,pl,cl,none,0,none,0,none,0⟩)) ∧ Below w.heap.size w w' :=
 (state11_any kind key sender kk s pk ck pl cl w).mono fun _ _ h => ⟨⟨_,h.1,rfl⟩,h.2⟩
theorem szE_one {r t s k : ByteArray} {st : Bool} {c : J} {pr : List ByteArray} (h1 : r.size ≤ 100) (h2 : t.size ≤ 100) (h3 : s.size ≤ 100) (h4 : k.size ≤ 100) (h5 : szJ 12 c = true) (h6 : pr.length ≤ 1) (h7 : ∀ x ∈ pr,x.size ≤ 100) : SzE ⟨r,t,s,st,k,c,pr,[],0,0,nix,[]⟩ :=
 ⟨by show r.size ≤ _;omega,by show t.size ≤ _;omega,by show s.size ≤ _;omega,by show k.size ≤ _;omega,Nat.zero_le _,h5,by show pr.length ≤ _;omega,fun x hx => Nat.le_trans (h7 x hx) (by decide),Nat.zero_le _,(fun x hx => by cases hx),Nat.zero_le _,(fun x hx => by cases hx)⟩
theorem sz_C : SzE exC:=szE_one (by decide) (by decide) (by decide) (by decide) (by kernel_rfl) (by decide) (fun x hx => by cases hx)
theorem sz_J : SzE exJ:=szE_one (by decide) (by decide) (by decide) (by decide) (by kernel_rfl) (by decide) (fun x hx => by simp at hx;subst hx;decide)
theorem sz_M : SzE exM:=szE_one (by decide) (by decide) (by decide) (by decide) (by kernel_rfl) (by decide) (fun x hx => by cases hx)
theorem sz_B : SzE exB:=szE_one (by decide) (by decide) (by decide) (by decide) (by kernel_rfl) (by decide) (fun x hx => by cases hx)
theorem szK_of {l : List Kn} (h : l.length ≤ 2) (hc : l.all (fun k => szJ 13 k.2.content && decide (k.2.sender.size ≤ 1000000000)) = true) : SzK l:=by
 simp only [List.all_eq_true,Bool.and_eq_true,decide_eq_true_eq] at hc
 exact ⟨by omega,fun k hk => (hc k hk).1,fun k hk => (hc k hk).2⟩
theorem szK_0 : SzK []:=szK_of (by decide) rfl
theorem szK_1 : SzK [(nm1,exC)]:=szK_of (by decide) (by kernel_rfl)
theorem szK_2 : SzK [(nm1,exC),(nm2,exJ)]:=szK_of (by decide) (by kernel_rfl)
theorem prev_put {W : World} {jb : Nat} {pk pl : Option Addr} {ck cl : Nat} (hX : W.heap[jb]? = some (.cells (cellsE exJ0 ⟨pk, ck, pl, cl, none, 0, none, 0, none, 0⟩).toArray 28 (0, 0))) (hJ : isJ (· < jb) W (oneJ nMemb vJoin) [.int .i64 5, .int .i64 0, .string nix, .slice pk 1 ck, .slice pl 1 cl]) :
    Keep (OneP jb) W ((W.alloc (.cells #[.string nm1] 9)).setCell ⟨jb,10,none⟩ (.slice (some ⟨W.heap.size,0,none⟩) 1 1)) ∧ IsV ((W.alloc (.cells #[.string nm1] 9)).setCell ⟨jb,10,none⟩ (.slice (some ⟨W.heap.size,0,none⟩) 1 1)) jb exJ ⟨pk,ck,pl,cl,some ⟨W.heap.size,0,none⟩,1,none,0,none,0⟩:=by
 have hlt:=objP_lt hX
 have hk0 : Keep (OneP jb) W (W.alloc (.cells #[.string nm1] 9)):=Keep.of_below ((Below.refl _ _).alloc (Nat.le_refl _) _)
 have hk : Keep (OneP jb) W ((W.alloc (.cells #[.string nm1] 9)).setCell ⟨jb,10,none⟩ (.slice (some ⟨W.heap.size,0,none⟩) 1 1)):=Keep.setCell (S:=OneP jb) (p:=⟨jb,10,none⟩) hk0 (fun _ => (rfl : jb = jb)) _
 have hX1 : (W.alloc (.cells #[.string nm1] 9)).heap[jb]? = some (.cells (cellsE exJ0 ⟨pk,ck,pl,cl,none,0,none,0,none,0⟩).toArray 28 (0,0)):=by rw [Below.heap_alloc _ _ _ hlt];exact hX
 have hN : (W.alloc (.cells #[.string nm1] 9)).heap[W.heap.size]? = some (.cells #[.string nm1] 9 (0,0)):=newP _
 have hN2 : ((W.alloc (.cells #[.string nm1] 9)).setCell ⟨jb,10,none⟩ (.slice (some ⟨W.heap.size,0,none⟩) 1 1)).heap[W.heap.size]? = some (.cells #[.string nm1] 9 (0,0)):=by
  rw [← hN]
  exact (Keep.setCell (S:=OneP jb) (p:=⟨jb,10,none⟩) (Keep.refl _ _) (fun _ => (rfl : jb = jb)) _).block W.heap.size (by simp) (by unfold OneP;omega)
 refine ⟨hk,⟨?_,⟨hJ.carry fun k hk' => ⟨?_,hk.block k (Nat.lt_trans hk' hlt) (by unfold OneP;omega)⟩,⟨Nat.le_refl _,fun j hj => ?_⟩,RdK.nil _ _,RdS.nil _ _ _ _⟩⟩⟩
 · rw [heap_setCell_same _ jb 10 _ _ _ hX1];rfl
 · exact Nat.lt_of_lt_of_le (Nat.lt_trans hk' hlt) hk.size
 · obtain rfl : j = 0:=by simp at hj;omega
   refine ⟨⟨W.heap.size,0,none⟩,rfl,objP_lt hN2,?_⟩
   exact cellP hN2 0 _ rfl
theorem rd_one {X : World} {b : Nat} {k : Kn} {q : Pt} (hX : X.heap[b]? = some (.cells (cellsK k q).toArray 41 (0,0))) (hE : IsE (· < X.heap.size) X k.2 q) : RdE (· < X.heap.size) X (some ⟨b,0,none⟩) 1 [k] :=
 ⟨Nat.le_refl _,fun j hj => by
  obtain rfl : j = 0:=by simp at hj;omega
  exact ⟨b,0,q,rfl,objP_lt hX,fun n v hv => by rw [show 0 + 0 * 17 + n = n by omega];exact cellP hX n v (by simpa using hv),hE⟩⟩
theorem rd_two {X : World} {b c : Nat} {k l : Kn} {q r : Pt} (hc : 2 ≤ c) (h1 : ∀ n v,(cellsK k q)[n]? = some v → X.cell? ⟨b,n,none⟩ = some v) (h2 : ∀ n v,(cellsK l r)[n]? = some v → X.cell? ⟨b,17 + n,none⟩ = some v) (hE : IsE (· < X.heap.size) X k.2 q) (hF : IsE (· < X.heap.size) X l.2 r) : RdE (· < X.heap.size) X (some ⟨b,0,none⟩) c [k,l] :=
 ⟨hc,fun j hj => by
  have hb : b < X.heap.size:=cell_lt (h1 0 _ rfl)
  have hj2 : j < 2:=hj
  match j,hj2 with
  | 0,_ => exact ⟨b,0,q,rfl,hb,fun n v hv => by rw [show 0 + 0 * 17 + n = n by omega];exact h1 n v hv,hE⟩
  | 1,_ => exact ⟨b,0,r,rfl,hb,fun n v hv => by rw [show 0 + 1 * 17 + n = 17 + n by omega];exact h2 n v hv,hF⟩⟩
theorem awake11_any (w : World) (hT : Tabs w) : Calls Tryz.prog 13 #[] w fun x w' => x = .returned (.bool true) ∧ Below w.heap.size w w':=by
 go_enter Tryz.func13,Tryz.ntmps13
 go_upto_region 3 with (first
  | (go_at_call 30;refine (text11_any _ _ _).mono ?_;rintro x w1 ⟨⟨pkc,ckc,plc,clc,rfl,hjc⟩,hbtc⟩)
  | (go_at_call 29;refine (state11_op _ _ _ nCreator uA pkc ckc plc clc _).mono ?_;rintro x w2 ⟨⟨Lc,rfl,HLc⟩,hbsc⟩)
  | (refine wpList_store_row rfl 28 _ _ rfl w2.heap.size 28 _ Lc.toArray rfl rfl (newP _) (by rw [HLc.out];exact infoE) (by rw [HLc.out];rfl) (by rw [HLc.out];exact one_E _ _) ?_))
 have hevc:=ev_new (e:=exC) (p:=⟨pkc,ckc,plc,clc,none,0,none,0,none,0⟩) (cellsE Ev.zero Pt.zero).toArray (isE_st rfl hjc hbsc)
 rw [show cellsE exC ⟨pkc,ckc,plc,clc,none,0,none,0,none,0⟩ = Lc from HLc.out.symm] at hevc
 change Code.wp _ _ _ _ ((w2.alloc (.cells (cellsE Ev.zero Pt.zero).toArray 28)).setRow w2.heap.size Lc.toArray)
 generalize (w2.alloc (.cells (cellsE Ev.zero Pt.zero).toArray 28)).setRow w2.heap.size Lc.toArray = WC at hevc
 have hBc : Below w.heap.size w WC:=belowP (Below.refl _ _) (belowP (belowP hbtc hbsc) hevc.1)
 have HVc : Hid (∀ X,Below WC.heap.size WC X → IsV X w2.heap.size exC ⟨pkc,ckc,plc,clc,none,0,none,0,none,0⟩):=fun X hX => hevc.2.below hX
 have HJc : Hid (isJ (· < w2.heap.size) WC (oneJ nCreator uA) [.int .i64 5,.int .i64 0,.string nix,.slice pkc 1 ckc,.slice plc 1 clc]):=hjc.carry fun k hk => ⟨Nat.lt_of_lt_of_le hk hbsc.size,(belowP hbsc hevc.1).block k hk⟩
 have hnc : Below w.heap.size w WC:=belowP (belowP hbtc hbsc) hevc.1
 have hzc : w.heap.size ≤ w2.heap.size:=Nat.le_trans hbtc.size hbsc.size
 clear hevc hjc hbtc hbsc
 go_upto_region 4 with (first
  | (go_at_call 30;refine (text11_any _ _ _).mono ?_;rintro x w3 ⟨⟨pkj,ckj,plj,clj,rfl,hjj⟩,hbtj⟩)
  | (go_at_call 29;refine (state11_op _ _ _ nMemb vJoin pkj ckj plj clj _).mono ?_;rintro x w4 ⟨⟨Lj,rfl,HLj⟩,hbsj⟩)
  | (refine wpList_store_row rfl 28 _ _ rfl w4.heap.size 28 _ Lj.toArray rfl rfl (newP _) (by rw [HLj.out];exact infoE) (by rw [HLj.out];rfl) (by rw [HLj.out];exact one_E _ _) ?_))
 have hevj:=ev_new (e:=exJ0) (p:=⟨pkj,ckj,plj,clj,none,0,none,0,none,0⟩) (cellsE Ev.zero Pt.zero).toArray (isE_st rfl hjj hbsj)
 rw [show cellsE exJ0 ⟨pkj,ckj,plj,clj,none,0,none,0,none,0⟩ = Lj from HLj.out.symm] at hevj
 change Code.wp _ _ _ _ ((w4.alloc (.cells (cellsE Ev.zero Pt.zero).toArray 28)).setRow w4.heap.size Lj.toArray)
 generalize (w4.alloc (.cells (cellsE Ev.zero Pt.zero).toArray 28)).setRow w4.heap.size Lj.toArray = WJ at hevj
 have hBj : Below w.heap.size w WJ:=belowP (hBc) (belowP (belowP hbtj hbsj) hevj.1)
 have HVj : Hid (∀ X,Below WJ.heap.size WJ X → IsV X w4.heap.size exJ0 ⟨pkj,ckj,plj,clj,none,0,none,0,none,0⟩):=fun X hX => hevj.2.below hX
 have HJj : Hid (isJ (· < w4.heap.size) WJ (oneJ nMemb vJoin) [.int .i64 5,.int .i64 0,.string nix,.slice pkj 1 ckj,.slice plj 1 clj]):=hjj.carry fun k hk => ⟨Nat.lt_of_lt_of_le hk hbsj.size,(belowP hbsj hevj.1).block k hk⟩
 have hnj : Below WC.heap.size WC WJ:=belowP (belowP hbtj hbsj) hevj.1
 have hzj : WC.heap.size ≤ w4.heap.size:=Nat.le_trans hbtj.size hbsj.size
 clear hevj hjj hbtj hbsj
 have hXA:=(Below.heap_alloc WJ (.cells #[.string ⟨#[36,65,65,65,65,65,65,65,65,65,65,69]⟩] 9) _ (objP_lt (HVj.out WJ (Below.refl _ _)).blk)).trans (HVj.out WJ (Below.refl _ _)).blk
 have cj : (WJ.alloc (.cells #[.string ⟨#[36,65,65,65,65,65,65,65,65,65,65,69]⟩] 9)).cell? ⟨w4.heap.size,10,none⟩ = some (.slice none 0 0):=cellP hXA 10 _ rfl
 have zj:=fzP hXA 10
 clear hXA
 go_upto_region 5 with fail
 have hp4:=prev_put (HVj.out WJ (Below.refl _ _)).blk HJj.out
 change Code.wp _ _ _ _ ((WJ.alloc (.cells #[.string nm1] 9)).setCell ⟨w4.heap.size,10,none⟩ (.slice (some ⟨WJ.heap.size,0,none⟩) 1 1))
 generalize (WJ.alloc (.cells #[.string nm1] 9)).setCell ⟨w4.heap.size,10,none⟩ (.slice (some ⟨WJ.heap.size,0,none⟩) 1 1) = W4 at hp4
 obtain ⟨hk4,hv4⟩:=hp4
 have hn4 : Below WC.heap.size WC W4:=hnj.trans (hk4.below hnj.size fun k hk e => by unfold OneP at e;omega)
 have hB4 : Below w.heap.size w W4:=belowP hBc hn4
 have HC4 : Hid (∀ X,Below W4.heap.size W4 X → IsV X w2.heap.size exC ⟨pkc,ckc,plc,clc,none,0,none,0,none,0⟩):=fun X hX => HVc.out X (belowP hn4 hX)
 have HJ4 : Hid (∀ X,Below W4.heap.size W4 X → IsV X w4.heap.size exJ ⟨pkj,ckj,plj,clj,some ⟨WJ.heap.size,0,none⟩,1,none,0,none,0⟩):=fun X hX => hv4.below hX
 have HRC : Hid (W4.rangeAt w2.heap.size 0 Lc):=by
  have:=(HC4.out W4 (Below.refl _ _)).rangeE
  rw [← HLc.out] at this
  exact this
 clear HVc HVj HJc HJj hk4 hv4 hn4 hnj hnc hBc hBj hzc hzj cj zj
 go_upto_region 6 with (first
  | (refine wpList_load_mid rfl 28 _ rfl w2.heap.size 0 rfl Lc _ HRC.out Tryz.underlying28 rfl (by rw [HLc.out];exact infoE) ?_)
  | (refine wpList_buildKo rfl _ _ rfl nm1 exC ⟨pkc,ckc,plc,clc,none,0,none,0,none,0⟩ Lc HLc.out rfl rfl fun Mc HMc => ?_)
  | (refine wpList_rowKo rfl _ rfl (nm1,exC) ⟨pkc,ckc,plc,clc,none,0,none,0,none,0⟩ Mc HMc.out rfl ?_))
 obtain ⟨W5,hW5⟩ : ∃ W5,W5 = W4.alloc (.cells Mc.toArray 41):=⟨_,rfl⟩
 have hb5 : Below W4.heap.size W4 W5:=by rw [hW5];exact (Below.refl _ _).alloc (Nat.le_refl _) _
 have hX5 : W5.heap[W4.heap.size]? = some (.cells (cellsK (nm1,exC) ⟨pkc,ckc,plc,clc,none,0,none,0,none,0⟩).toArray 41 (0,0)):=by rw [hW5,HMc.out];exact newP _
 have HK5 : Hid (∀ X,Below W5.heap.size W5 X → X.heap[W4.heap.size]? = some (.cells (cellsK (nm1,exC) ⟨pkc,ckc,plc,clc,none,0,none,0,none,0⟩).toArray 41 (0,0))):=fun X hX => (hX.block _ (objP_lt hX5)).trans hX5
 rw [← hW5]
 clear hW5 hX5 HRC
 go_upto_region 7 with (refine wpList_store_row rfl 28 _ _ rfl W5.heap.size 28 _ (cellsE exM Pt.zero).toArray rfl rfl (newP _) infoE rfl (one_E _ _) ?_)
 have hevm:=ev_new (w:=W5) (e:=exM) (p:=Pt.zero) (cellsE Ev.zero Pt.zero).toArray ⟨isJ_bareA _ _ _ _ _,RdK.nil _ _,RdK.nil _ _,RdS.nil _ _ _ _⟩
 change Code.wp _ _ _ _ ((W5.alloc (.cells (cellsE Ev.zero Pt.zero).toArray 28)).setRow W5.heap.size (cellsE exM Pt.zero).toArray)
 generalize (W5.alloc (.cells (cellsE Ev.zero Pt.zero).toArray 28)).setRow W5.heap.size (cellsE exM Pt.zero).toArray = W6 at hevm
 obtain ⟨hb6,hv6⟩:=hevm
 have hb46 : Below W4.heap.size W4 W6:=belowP hb5 hb6
 have HJ6 : Hid (∀ X,Below W6.heap.size W6 X → IsV X w4.heap.size exJ ⟨pkj,ckj,plj,clj,some ⟨WJ.heap.size,0,none⟩,1,none,0,none,0⟩):=fun X hX => HJ4.out X (belowP hb46 hX)
 have HM6 : Hid (∀ X,Below W6.heap.size W6 X → IsV X W5.heap.size exM Pt.zero):=fun X hX => hv6.below hX
 have HC6 : Hid (∀ X,Below W6.heap.size W6 X → IsV X w2.heap.size exC ⟨pkc,ckc,plc,clc,none,0,none,0,none,0⟩):=fun X hX => HC4.out X (belowP hb46 hX)
 have HK6 : Hid (∀ X,Below W6.heap.size W6 X → X.heap[W4.heap.size]? = some (.cells (cellsK (nm1,exC) ⟨pkc,ckc,plc,clc,none,0,none,0,none,0⟩).toArray 41 (0,0))):=fun X hX => HK5.out X (belowP hb6 hX)
 have hB6 : Below w.heap.size w W6:=belowP hB4 hb46
 obtain ⟨Lp,hLp⟩ : ∃ L,L = cellsE exJ ⟨pkj,ckj,plj,clj,some ⟨WJ.heap.size,0,none⟩,1,none,0,none,0⟩:=⟨_,rfl⟩
 have HLp:=(show Hid _ from hLp)
 clear hLp
 have HRJ : Hid (W6.rangeAt w4.heap.size 0 Lp):=by
  have:=(HJ6.out W6 (Below.refl _ _)).rangeE
  rw [← HLp.out] at this
  exact this
 have HKA : Hid (∀ o : Obj,(W6.alloc o).heap[W4.heap.size]? = some (.cells (cellsK (nm1,exC) ⟨pkc,ckc,plc,clc,none,0,none,0,none,0⟩).toArray 41 (0,0))):=fun o => HK6.out _ ((Below.refl _ _).alloc (Nat.le_refl _) _)
 clear HJ4 HC4 HK5 hb5 hb6 hv6 hb46 hB4
 go_upto_region 8 with (first
  | (refine wpList_load_mid rfl 28 _ rfl w4.heap.size 0 rfl Lp _ HRJ.out Tryz.underlying28 rfl (by rw [HLp.out];exact infoE) ?_)
  | (refine wpList_buildKo rfl _ _ rfl nm2 exJ ⟨pkj,ckj,plj,clj,some ⟨WJ.heap.size,0,none⟩,1,none,0,none,0⟩ Lp HLp.out rfl rfl fun Mp HMp => ?_)
  | (refine wpList_rowKo rfl _ rfl (nm2,exJ) ⟨pkj,ckj,plj,clj,some ⟨WJ.heap.size,0,none⟩,1,none,0,none,0⟩ Mp HMp.out rfl ?_)
  | (refine wpList_twoK rfl _ _ rfl W4.heap.size W6.heap.size (nm1,exC) (nm2,exJ) ⟨pkc,ckc,plc,clc,none,0,none,0,none,0⟩ ⟨pkj,ckj,plj,clj,some ⟨WJ.heap.size,0,none⟩,1,none,0,none,0⟩ rfl rfl (HKA.out _) (by rw [HMp.out];exact newP _) fun c7 W7 hc7 hb7 hf7 hg7 => ?_))
 have hb67 : Below W6.heap.size W6 W7:=belowP ((Below.refl _ _).alloc (Nat.le_refl _) _) hb7
 have hBk : Below w.heap.size w W7:=belowP hB6 hb67
 rw [World.size_alloc] at hf7 hg7
 have HR7 : Hid (∀ X,Below W7.heap.size W7 X → RdE (· < X.heap.size) X (some ⟨W6.heap.size + 1,0,none⟩) c7 [(nm1,exC),(nm2,exJ)]):=fun X hX =>
  rd_two hc7 (fun n v hv => (hX.cell (p:=⟨_,n,none⟩) (cell_lt (hf7 n v hv))).trans (hf7 n v hv)) (fun n v hv => (hX.cell (p:=⟨_,17 + n,none⟩) (cell_lt (hg7 n v hv))).trans (hg7 n v hv)) (HC6.out X (belowP hb67 hX)).ev (HJ6.out X (belowP hb67 hX)).ev
 go_upto_region 9 with (first
  | (go_at_call 30;refine (text11_any _ _ _).mono ?_;rintro x w8 ⟨⟨pkb,ckb,plb,clb,rfl,hjb⟩,hbtb⟩)
  | (go_at_call 29;refine (state11_op _ _ _ nMemb vBan pkb ckb plb clb _).mono ?_;rintro x w9 ⟨⟨Lb,rfl,HLb⟩,hbsb⟩)
  | (refine wpList_store_row rfl 28 _ _ rfl w9.heap.size 28 _ Lb.toArray rfl rfl (newP _) (by rw [HLb.out];exact infoE) (by rw [HLb.out];rfl) (by rw [HLb.out];exact one_E _ _) ?_))
 have hevb:=ev_new (e:=exB) (p:=⟨pkb,ckb,plb,clb,none,0,none,0,none,0⟩) (cellsE Ev.zero Pt.zero).toArray (isE_st rfl hjb hbsb)
 rw [show cellsE exB ⟨pkb,ckb,plb,clb,none,0,none,0,none,0⟩ = Lb from HLb.out.symm] at hevb
 change Code.wp _ _ _ _ ((w9.alloc (.cells (cellsE Ev.zero Pt.zero).toArray 28)).setRow w9.heap.size Lb.toArray)
 generalize (w9.alloc (.cells (cellsE Ev.zero Pt.zero).toArray 28)).setRow w9.heap.size Lb.toArray = WB at hevb
 have hBb : Below w.heap.size w WB:=belowP (hBk) (belowP (belowP hbtb hbsb) hevb.1)
 have HVb : Hid (∀ X,Below WB.heap.size WB X → IsV X w9.heap.size exB ⟨pkb,ckb,plb,clb,none,0,none,0,none,0⟩):=fun X hX => hevb.2.below hX
 have HJb : Hid (isJ (· < w9.heap.size) WB (oneJ nMemb vBan) [.int .i64 5,.int .i64 0,.string nix,.slice pkb 1 ckb,.slice plb 1 clb]):=hjb.carry fun k hk => ⟨Nat.lt_of_lt_of_le hk hbsb.size,(belowP hbsb hevb.1).block k hk⟩
 have hnb : Below W7.heap.size W7 WB:=belowP (belowP hbtb hbsb) hevb.1
 have hzb : W7.heap.size ≤ w9.heap.size:=Nat.le_trans hbtb.size hbsb.size
 clear hevb hjb hbtb hbsb
 have h67B : Below W6.heap.size W6 WB:=belowP hb67 hnb
 have HRJ2 : Hid (WB.rangeAt w4.heap.size 0 Lp):=by
  have:=(HJ6.out WB h67B).rangeE
  rw [← HLp.out] at this
  exact this
 have hWt : Calls Tryz.prog 14 #[.agg Lp.toArray] WB fun x w' => (∃ q c,x = .returned (.slice q 4 c)) ∧ Below WB.heap.size WB w':=by
  rw [HLp.out]
  refine (wanted_any (HJ6.out WB h67B).ev (fun _ h => h) sz_J).mono fun x w' hh => ⟨?_,hh.2⟩
  obtain ⟨⟨q,c,hx,_⟩,_⟩:=hh
  rw [want_J] at hx
  exact ⟨q,c,hx⟩
 clear HRJ HKA hb7 hf7 hg7
 go_upto_region 10 with (first
  | (refine wpList_load_mid rfl 28 _ rfl w4.heap.size 0 rfl Lp _ HRJ2.out Tryz.underlying28 rfl (by rw [HLp.out];exact infoE) ?_)
  | (go_at_call 14;refine hWt.mono ?_;rintro x W9 ⟨⟨qw,cw,rfl⟩,hb9⟩))
 have h69 : Below W6.heap.size W6 W9:=belowP h67B hb9
 have h79 : Below W7.heap.size W7 W9:=belowP hnb hb9
 have hB9 : Below w.heap.size w W9:=belowP hBb hb9
 have HT : Hid (∀ X,Below W9.heap.size W9 X → Tabs X):=fun X hX => hT.below (belowP hB9 hX)
 have HBB : Hid (∀ X,Below W9.heap.size W9 X → Below w.heap.size w X):=fun X hX => belowP hB9 hX
 have HE1 : Hid (∀ X,Below W9.heap.size W9 X → (Instr.loadAt 28 (.pointer (some ⟨w2.heap.size,0,none⟩))).run Tryz.prog X = .ok (.agg (cellsE exC ⟨pkc,ckc,plc,clc,none,0,none,0,none,0⟩).toArray) X):=fun X hX => run_loadAt_mid X w2.heap.size 0 28 (cellsE exC ⟨pkc,ckc,plc,clc,none,0,none,0,none,0⟩) _ (HC6.out X (belowP h69 hX)).rangeE Tryz.underlying28 rfl infoE
 have HE2 : Hid (∀ X,Below W9.heap.size W9 X → (Instr.loadAt 28 (.pointer (some ⟨w4.heap.size,0,none⟩))).run Tryz.prog X = .ok (.agg (cellsE exJ ⟨pkj,ckj,plj,clj,some ⟨WJ.heap.size,0,none⟩,1,none,0,none,0⟩).toArray) X):=fun X hX => run_loadAt_mid X w4.heap.size 0 28 (cellsE exJ ⟨pkj,ckj,plj,clj,some ⟨WJ.heap.size,0,none⟩,1,none,0,none,0⟩) _ (HJ6.out X (belowP h69 hX)).rangeE Tryz.underlying28 rfl infoE
 have HE3 : Hid (∀ X,Below W9.heap.size W9 X → (Instr.loadAt 28 (.pointer (some ⟨W5.heap.size,0,none⟩))).run Tryz.prog X = .ok (.agg (cellsE exM Pt.zero).toArray) X):=fun X hX => run_loadAt_mid X W5.heap.size 0 28 (cellsE exM Pt.zero) _ (HM6.out X (belowP h69 hX)).rangeE Tryz.underlying28 rfl infoE
 have HE4 : Hid (∀ X,Below W9.heap.size W9 X → (Instr.loadAt 28 (.pointer (some ⟨w9.heap.size,0,none⟩))).run Tryz.prog X = .ok (.agg (cellsE exB ⟨pkb,ckb,plb,clb,none,0,none,0,none,0⟩).toArray) X):=fun X hX => run_loadAt_mid X w9.heap.size 0 28 (cellsE exB ⟨pkb,ckb,plb,clb,none,0,none,0,none,0⟩) _ (HVb.out X (belowP hb9 hX)).rangeE Tryz.underlying28 rfl infoE
 have HQ1 : Hid (∀ X,Below W9.heap.size W9 X → Calls Tryz.prog 11 #[.agg (cellsE exC ⟨pkc,ckc,plc,clc,none,0,none,0,none,0⟩).toArray,.slice none 0 0] X fun x w' => x = .returned (.int .i64 0) ∧ Below X.heap.size X w'):=fun X hX => by
  have:=judge_any (l:=[]) (ps:=none) (cs:=0) (HC6.out X (belowP h69 hX)).ev (RdE.nil _ _ _ _) (fun _ h => h) sz_C szK_0 (HT.out X hX)
  rw [judge_C] at this
  exact this
 have HQ2 : Hid (∀ X,Below W9.heap.size W9 X → Calls Tryz.prog 11 #[.agg (cellsE exJ ⟨pkj,ckj,plj,clj,some ⟨WJ.heap.size,0,none⟩,1,none,0,none,0⟩).toArray,.slice (some ⟨W4.heap.size,0,none⟩) 1 1] X fun x w' => x = .returned (.int .i64 0) ∧ Below X.heap.size X w'):=fun X hX => by
  have:=judge_any (HJ6.out X (belowP h69 hX)).ev (rd_one (HK6.out X (belowP h69 hX)) (HC6.out X (belowP h69 hX)).ev) (fun _ h => h) sz_J szK_1 (HT.out X hX)
  rw [judge_J] at this
  exact this
 have HQ3 : Hid (∀ X,Below W9.heap.size W9 X → Calls Tryz.prog 11 #[.agg (cellsE exM Pt.zero).toArray,.slice (some ⟨W6.heap.size + 1,0,none⟩) 2 c7] X fun x w' => x = .returned (.int .i64 110) ∧ Below X.heap.size X w'):=fun X hX => by
  have:=judge_any (HM6.out X (belowP h69 hX)).ev (HR7.out X (belowP h79 hX)) (fun _ h => h) sz_M szK_2 (HT.out X hX)
  rw [judge_M] at this
  exact this
 have HQ4 : Hid (∀ X,Below W9.heap.size W9 X → Calls Tryz.prog 11 #[.agg (cellsE exB ⟨pkb,ckb,plb,clb,none,0,none,0,none,0⟩).toArray,.slice (some ⟨W6.heap.size + 1,0,none⟩) 2 c7] X fun x w' => x = .returned (.int .i64 110) ∧ Below X.heap.size X w'):=fun X hX => by
  have:=judge_any (HVb.out X (belowP hb9 hX)).ev (HR7.out X (belowP h79 hX)) (fun _ h => h) sz_B szK_2 (HT.out X hX)
  rw [judge_B] at this
  exact this
 have hA0 : Below W9.heap.size W9 W9:=Below.refl _ _
 clear HC6 HJ6 HM6 HVb HR7 HK6 h69 h79 hB9 HT HRJ2 hWt hT hBk hB6 hb67 hnb h67B hBb hb9 HJb hzb
 rw [← HLc.out] at HE1 HQ1
 rw [← HLp.out] at HE2 HQ2
 rw [← HLb.out] at HE4 HQ4
 generalize cellsE exM Pt.zero = LM at HE3 HQ3
 go_wp2_with (first
  | (refine wpList_load_midg (by kernel_rfl) 28 _ rfl w9.heap.size 0 rfl Lb (HE4.out _ hA3) ?_)
  | (refine wpList_load_midg (by kernel_rfl) 28 _ rfl W5.heap.size 0 rfl LM (HE3.out _ hA2) ?_)
  | (refine wpList_load_midg (by kernel_rfl) 28 _ rfl w4.heap.size 0 rfl Lp (HE2.out _ hA1) ?_)
  | (refine wpList_load_midg (by kernel_rfl) 28 _ rfl w2.heap.size 0 rfl Lc (HE1.out _ hA0) ?_)
  | (go_at_call 11;refine (HQ4.out _ hA3).mono ?_;rintro x wd ⟨rfl,hbd⟩;have hA4:=belowP hA3 hbd)
  | (go_at_call 11;refine (HQ3.out _ hA2).mono ?_;rintro x wc ⟨rfl,hbc⟩;have hA3:=belowP hA2 hbc)
  | (go_at_call 11;refine (HQ2.out _ hA1).mono ?_;rintro x wb ⟨rfl,hbb⟩;have hA2:=belowP hA1 hbb)
  | (go_at_call 11;refine (HQ1.out _ hA0).mono ?_;rintro x wa ⟨rfl,hba⟩;have hA1:=belowP hA0 hba))
 go_ret
 exact ⟨rfl,HBB.out _ hA4⟩
def LeftsE (d : Nat) : Prop:=∀ (w : World) (O : Nat → Prop) (j : J) (k i deep n : Int) (t : ByteArray) (pk pl : Option Addr) (nk ck nl cl : Nat),(∀ x,O x → x < w.heap.size) → deep = (d : Int) → d ≤ 100 → 0 ≤ n → n ≤ 100000 →
 isJ O w j [.int .i64 k,.int .i64 i,.string t,.slice pk nk ck,.slice pl nl cl] →
 Calls Tryz.prog 23 #[.agg #[.int .i64 k,.int .i64 i,.string t,.slice pk nk ck,.slice pl nl cl],.int .i64 n,.int .i64 deep] w fun x w' => (∃ r : Int,x = .returned (.int .i64 r) ∧ r ≤ n ∧ -1 ≤ r ∧ (0 ≤ r → szJ d j = true)) ∧ Below w.heap.size w w'
theorem eleft_zero : LeftsE 0:=by
 intro w O j k i deep n t pk pl nk ck nl cl hO hdeep _ h0 hn _
 subst hdeep
 have hbA : Below w.heap.size w (w.alloc (.cells #[.int .i64 k,.int .i64 i,.string t,.slice pk nk ck,.slice pl nl cl] 25)):=(Below.refl _ _).alloc (Nat.le_refl _) _
 by_cases h1 : n < 1
 · go_enter Tryz.func23,Tryz.ntmps23
   go_wp2
   go_ret
   exact ⟨⟨-1,rfl,by omega,by omega,fun h => absurd h (by decide)⟩,hbA⟩
 · go_enter Tryz.func23,Tryz.ntmps23
   go_wp2
   go_ret
   exact ⟨⟨-1,rfl,by omega,by omega,fun h => absurd h (by decide)⟩,hbA⟩
theorem eleft_step {d : Nat} (V : LeftsE d) : LeftsE (d + 1):=by
 intro w O j k i deep n t pk pl nk ck nl cl hO hdeep hd h0 hn hj
 obtain ⟨kx,ix,tx,ks,l⟩:=j
 unfold isJ at hj
 obtain ⟨pk',ck',pl',cl',e,hk,hl,hs⟩:=hj
 simp only [List.cons.injEq,Value.int.injEq,Value.string.injEq,Value.slice.injEq,true_and,and_true] at e
 obtain ⟨rfl,rfl,rfl,⟨rfl,rfl,rfl⟩,rfl,rfl,rfl⟩:=e
 have hd1 : 1 ≤ deep:=by omega
 have hd2 : deep ≤ 101:=by omega
 have HD : Hid (deep - 1 = (d : Int)):=by show _ = _;omega
 have HDL : Hid (d ≤ 100):=by show _ ≤ _;omega
 clear hdeep hd
 obtain ⟨nk,hnk⟩ : ∃ n,ks.length = n:=⟨_,rfl⟩
 obtain ⟨nl,hnl⟩ : ∃ n,l.length = n:=⟨_,rfl⟩
 have HNK : Hid (ks.length = nk):=hnk
 have HNL : Hid (l.length = nl):=hnl
 have hck:=hk.1
 rw [hnk] at hck ⊢
 rw [hnl] at hl ⊢
 clear hnk hnl
 have hbA : Below w.heap.size w (w.alloc (.cells #[.int .i64 k,.int .i64 i,.string t,.slice pk nk ck,.slice pl nl cl] 25)):=(Below.refl _ _).alloc (Nat.le_refl _) _
 have neg : ∀ (w' : World) (x : Ending),x = .returned (.int .i64 (-1)) → Below w.heap.size w w' → (∃ r : Int,x = .returned (.int .i64 r) ∧ r ≤ n ∧ -1 ≤ r ∧ (0 ≤ r → szJ (d + 1) (.mk k i t ks l) = true)) ∧ Below w.heap.size w w':=fun w' x hx hb => ⟨⟨-1,hx,by omega,by omega,fun h => absurd h (by decide)⟩,hb⟩
 have HNEG : Hid (∀ (w' : World) (x : Ending),x = .returned (.int .i64 (-1)) → Below w.heap.size w w' → (∃ r : Int,x = .returned (.int .i64 r) ∧ r ≤ n ∧ -1 ≤ r ∧ (0 ≤ r → szJ (d + 1) (.mk k i t ks l) = true)) ∧ Below w.heap.size w w'):=neg
 clear neg
 by_cases h1 : n < 1
 · go_enter Tryz.func23,Tryz.ntmps23
   go_wp2
   go_ret
   exact HNEG.out _ _ rfl hbA
 by_cases h2 : (2000 : Int) < t.size
 · go_enter Tryz.func23,Tryz.ntmps23
   go_wp2
   go_ret
   exact HNEG.out _ _ rfl hbA
 by_cases h3 : (100 : Int) < nk
 · go_enter Tryz.func23,Tryz.ntmps23
   go_wp2
   go_ret
   exact HNEG.out _ _ rfl hbA
 by_cases h4 : (300 : Int) < nl
 · go_enter Tryz.func23,Tryz.ntmps23
   go_wp2
   go_ret
   exact HNEG.out _ _ rfl hbA
 obtain ⟨wB,hwB⟩ : ∃ wB,wB = w.alloc (.cells #[.int .i64 k,.int .i64 i,.string t,.slice pk nk ck,.slice pl nl cl] 25):=⟨_,rfl⟩
 have hA : wB.heap[w.heap.size]? = some (.cells #[.int .i64 k,.int .i64 i,.string t,.slice pk nk ck,.slice pl nl cl] 25 (0,0)):=by rw [hwB];exact heap_alloc_new _ _
 have hsB : w.heap.size < wB.heap.size:=(Array.getElem?_eq_some_iff.1 hA).1
 rw [← hwB] at hbA
 have HCA : Hid (∀ W : World,Below wB.heap.size wB W → ∀ n v,[Value.int .i64 k,.int .i64 i,.string t,.slice pk nk ck,.slice pl nl cl][n]? = some v → W.cell? ⟨w.heap.size,n,none⟩ = some v):=fun W hW n v hv =>
  (World.cell?_of_block (a:=⟨w.heap.size,n,none⟩) (hW.block w.heap.size hsB)).trans (cell_row (cur:=[.int .i64 k,.int .i64 i,.string t,.slice pk nk ck,.slice pl nl cl]) hA n v hv)
 go_enter Tryz.func23,Tryz.ntmps23
 go_wp2
 rw [← hwB]
 clear hwB hA
 go_loopw [7] (fun v wr => ∃ m : Nat,v = .int .i64 m ∧ m ≤ nk ∧ Hid (∀ x,x < m → (ks.getD x nix).size ≤ 300) ∧ wr = wB) (fun v _ => nk - (intOf v).toNat)
 case atStart => exact ⟨0,rfl,Nat.zero_le _,fun m hm => absurd hm (by omega),rfl⟩
 case round =>
  obtain ⟨m,rfl,hm,HE,rfl⟩:=hrel
  have a3:=HCA.out wr (Below.refl _ _) 3 _ rfl
  by_cases hmk : m < nk
  · have hmi : (m : Int) < (nk : Int):=by omega
    obtain ⟨ka,hpk,hOa,hcka⟩:=hk.2 m (by rw [HNK.out];exact hmk)
    subst hpk
    have hKA : wr.cell? (ka.add m) = some (.string (ks.getD m nix)):=(World.cell?_of_block (by rw [add_block];exact hbA.block _ (hO _ hOa))).trans hcka
    obtain ⟨u,hu⟩ : ∃ u,ks.getD m nix = u:=⟨_,rfl⟩
    have HU : Hid (ks.getD m nix = u):=hu
    rw [hu] at hKA
    clear hu hcka
    by_cases hus : (300 : Int) < u.size
    · go_wp2
      go_ret
      exact HNEG.out _ _ rfl hbA
    · go_wp2
      go_roundw
      case rel => exact ⟨m + 1,by go_num,hmk,fun x hx => (Nat.lt_succ_iff_lt_or_eq.1 hx).elim (HE.out x) fun e => by rw [e,HU.out];omega,trivial⟩
      case measure => simp [intOf];omega
  · obtain rfl : m = nk:=by omega
    have HKS : Hid (ks.all (fun k => decide (k.size ≤ 1000000000)) = true):=by
     show _ = _
     rw [List.all_eq_true]
     intro x hx
     obtain ⟨y,hy,rfl⟩:=List.getElem_of_mem hx
     have:=HE.out y (by rw [← HNK.out];exact hy)
     rw [key_getD hy] at this
     exact decide_eq_true (by omega)
    go_wp2
    go_loopw [1,8] (fun u v w2 => ∃ (m : Nat) (r : Int),v = .int .i64 m ∧ u = .int .i64 r ∧ m ≤ nl ∧ r ≤ n - 1 ∧ -1 ≤ r ∧ Hid (0 ≤ r → (l.take m).all (szJ d) = true) ∧ Below wr.heap.size wr w2) (fun _ v _ => nl - (intOf v).toNat)
    case atStart => exact ⟨0,n - 1,rfl,rfl,Nat.zero_le _,by omega,by omega,fun _ => rfl,Below.refl _ _⟩
    case round =>
     obtain ⟨m',r,rfl,rfl,hm',hrn,hr0,HT,hb2⟩:=hrel
     have a4:=HCA.out wr hb2 4 _ rfl
     by_cases hml : m' < nl
     · have hmi : (m' : Int) < (nl : Int):=by omega
       by_cases hr : 0 ≤ r
       · have hml1 : m' < l.length:=by rw [HNL.out];exact hml
         have HML : Hid (m' < l.length):=hml1
         obtain ⟨lb,lo,cs,hpl,hOl,hcells,hyj⟩:=isJs.at l 0 m' hs hml1
         subst hpl
         obtain ⟨x0,x1,x2,p3,n3,c3,p4,n4,c4,rfl⟩:=isJ_shape hyj
         have hblk:=(hb2.block lb (by have:=hO _ hOl;omega)).trans (hbA.block lb (hO _ hOl))
         have cc : ∀ m v,[Value.int .i64 x0,.int .i64 x1,.string x2,.slice p3 n3 c3,.slice p4 n4 c4][m]? = some v → wr.cell? ⟨lb,lo + m' * 5 + m,none⟩ = some v:=fun m v h => by
          have:=hcells m v h
          rw [Nat.zero_add] at this
          exact (World.cell?_of_block (a:=⟨lb,lo + m' * 5 + m,none⟩) hblk).trans this
         have y0 : wr.cell? ⟨lb,lo + m' * 5,none⟩ = some (.int .i64 x0):=cc 0 _ rfl
         have y1:=cc 1 _ rfl
         have y2:=cc 2 _ rfl
         have y3:=cc 3 _ rfl
         have y4:=cc 4 _ rfl
         have hB2:=below_cat hbA (by omega) hb2
         have hV:=V wr O (l.getD m' J.zero) x0 x1 (deep - 1) r x2 p3 p4 n3 c3 n4 c4 (fun b hb => Nat.lt_of_lt_of_le (hO b hb) hB2.size) HD.out HDL.out hr (by omega) (hyj.carry fun b hb => ⟨hb,hB2.block b (hO b hb)⟩)
         clear cc hcells hml1 hyj hblk
         go_wp2_with (go_at_call 23;refine hV.mono ?_;rintro x w4 ⟨⟨r4,rfl,hr4,hr5,hr6⟩,hb4⟩)
         go_roundw
         case rel => exact ⟨m' + 1,r4,by go_num,rfl,hml,by omega,hr5,fun h => by rw [all_take HML.out,HT.out hr,hr6 h];rfl,below_cat hb2 hb2.size hb4⟩
         case measure => simp [intOf];omega
       · go_wp2
         go_ret
         refine ⟨⟨r,rfl,by omega,hr0,fun h => absurd h (by omega)⟩,below_cat hbA (by omega) hb2⟩
     · obtain rfl : m' = nl:=by omega
       go_wp2
       go_ret
       refine ⟨⟨r,rfl,by omega,hr0,fun h => ?_⟩,below_cat hbA (by omega) hb2⟩
       have ht:=HT.out h
       rw [List.take_of_length_le (by rw [HNL.out];omega)] at ht
       unfold szJ
       rw [HKS.out,ht,HNK.out,HNL.out,decide_eq_true (show t.size ≤ 1000000000 by omega),decide_eq_true (show m ≤ 100000 by omega),decide_eq_true (show m' ≤ 100000 by omega)]
       rfl
theorem elefts : ∀ d,LeftsE d
 | 0 => eleft_zero
 | d + 1 => eleft_step (elefts d)
end Go.Proofs.YtldegjjaknelgaaGreatDoor
namespace Go.Proofs.YtldegjjaknelgaaGreatDoor
open Go.RowKit Go.Maps
structure BigE (e : Ev) : Prop where
 room : e.room.size ≤ 140737488355328
 typ : e.typ.size ≤ 140737488355328
 sender : e.sender.size ≤ 140737488355328
 key : e.key.size ≤ 140737488355328
 hash : e.hash.size ≤ 140737488355328
 sigs : ∀ x ∈ e.sigs,x.1.size ≤ 140737488355328 ∧ x.2.size ≤ 140737488355328
structure FewE (e : Ev) : Prop where
 texts : e.room.size + e.typ.size + e.sender.size + e.key.size + e.hash.size ≤ 2000
 prev : e.prev.length ≤ 30
 prevs : ∀ x ∈ e.prev,x.size ≤ 100
 auth : e.auth.length ≤ 30
 auths : ∀ x ∈ e.auth,x.size ≤ 100
 sigs : e.sigs.length ≤ 30
 sigss : ∀ x ∈ e.sigs,x.1.size + x.2.size ≤ 200
 cont : szJ 20 e.content = true
theorem FewE.sz {e : Ev} (h : FewE e) : SzE e:=by
 have t:=h.texts
 exact ⟨by omega,by omega,by omega,by omega,by omega,sz_less 12 20 _ (by decide) h.cont,Nat.le_trans h.prev (by decide),fun x hx => Nat.le_trans (h.prevs x hx) (by decide),Nat.le_trans h.auth (by decide),fun x hx => Nat.le_trans (h.auths x hx) (by decide),Nat.le_trans h.sigs (by decide),fun x hx => by have:=h.sigss x hx;omega⟩
def FewP (w w' : World) (e : Ev) (x : Ending) : Prop:=(∃ b : Bool,x = .returned (.bool b) ∧ (b = true → FewE e)) ∧ Below w.heap.size w w'
theorem all_getD {l : List ByteArray} {B : Nat} (h : ∀ x,x < l.length → (l.getD x nix).size ≤ B) : ∀ x ∈ l,x.size ≤ B:=fun x hx => by
 obtain ⟨y,hy,rfl⟩:=List.getElem_of_mem hx
 have:=h y hy
 rwa [key_getD hy] at this
theorem eFew_any {O : Nat → Prop} (e : Ev) (p : Pt) (w : World) (hE : IsE O w e p) (hO : ∀ k, O k → k < w.heap.size) (hl : BigE e) :
    Calls Tryz.prog 9 #[valE e p] w fun x w' => FewP w w' e x:=by
 obtain ⟨room,typ,sender,st,key,⟨k,i,t,ks,l⟩,prev,auth,depth,ts,hash,sigs⟩:=e
 obtain ⟨pk,ck,pl,cl,pp,cp,pa,ca,ps,cs⟩:=p
 obtain ⟨z0,z1,z2,z4,z14,z15⟩:=hl
 obtain ⟨hc,hp,ha,hs⟩:=hE
 simp only at z0 z1 z2 z4 z14 z15 hc hp ha hs
 unfold five at hc
 simp only [J.kind,J.int,J.text,J.keys,J.list] at hc
 simp only [valE,cellsE,J.kind,J.int,J.text,J.keys,J.list]
 obtain ⟨np,hnp⟩ : ∃ n,prev.length = n:=⟨_,rfl⟩
 obtain ⟨na,hna⟩ : ∃ n,auth.length = n:=⟨_,rfl⟩
 obtain ⟨ns,hns⟩ : ∃ n,sigs.length = n:=⟨_,rfl⟩
 have HNP : Hid (prev.length = np):=hnp
 have HNA : Hid (auth.length = na):=hna
 have HNS : Hid (sigs.length = ns):=hns
 have hcp:=hp.1
 have hca:=ha.1
 have hcs:=hs.1
 rw [hnp] at hcp ⊢
 rw [hna] at hca ⊢
 rw [hns] at hcs ⊢
 clear hnp hna hns
 obtain ⟨WB,hWB⟩ : ∃ WB,WB = w.alloc (.cells #[.string room,.string typ,.string sender,.bool st,.string key,.int .i64 k,.int .i64 i,.string t,.slice pk ks.length ck,.slice pl l.length cl,.slice pp np cp,.slice pa na ca,.int .i64 depth,.int .i64 ts,.string hash,.slice ps ns cs] 28):=⟨_,rfl⟩
 have hbw : Below w.heap.size w WB:=by rw [hWB];exact (Below.refl _ _).alloc (Nat.le_refl _) _
 have hrs : WB.heap[w.heap.size]? = some (.cells #[.string room,.string typ,.string sender,.bool st,.string key,.int .i64 k,.int .i64 i,.string t,.slice pk ks.length ck,.slice pl l.length cl,.slice pp np cp,.slice pa na ca,.int .i64 depth,.int .i64 ts,.string hash,.slice ps ns cs] 28 (0,0)):=by rw [hWB];exact heap_alloc_new _ _
 have HNO : Hid (∀ W',Below w.heap.size w W' → ∀ x : Ending,x = .returned (.bool false) → FewP w W' ⟨room,typ,sender,st,key,⟨k,i,t,ks,l⟩,prev,auth,depth,ts,hash,sigs⟩ x):=fun W' h x hx => ⟨⟨false,hx,fun h => by cases h⟩,h⟩
 by_cases h1 : (2000 : Int) < (room.size : Int) + typ.size + sender.size + key.size + hash.size
 · go_enter Tryz.func9,Tryz.ntmps9
   go_wp2
   go_ret
   exact HNO.out _ (hWB ▸ hbw) _ rfl
 by_cases h2 : (30 : Int) < np
 · go_enter Tryz.func9,Tryz.ntmps9
   go_wp2
   go_ret
   exact HNO.out _ (hWB ▸ hbw) _ rfl
 by_cases h3 : (30 : Int) < na
 · go_enter Tryz.func9,Tryz.ntmps9
   go_wp2
   go_ret
   exact HNO.out _ (hWB ▸ hbw) _ rfl
 by_cases h4 : (30 : Int) < ns
 · go_enter Tryz.func9,Tryz.ntmps9
   go_wp2
   go_ret
   exact HNO.out _ (hWB ▸ hbw) _ rfl
 have H1 : Hid (room.size + typ.size + sender.size + key.size + hash.size ≤ 2000):=by show _ ≤ _;omega
 have HP : Hid (∀ j,j < np → ∃ a,pp = some a ∧ WB.cell? (a.add j) = some (.string (prev.getD j nix))):=fun j hj => by
  obtain ⟨a,e,hOa,hca⟩:=hp.2 j (by rw [HNP.out];exact hj)
  exact ⟨a,e,(World.cell?_of_block (by rw [add_block];exact hbw.block _ (hO _ hOa))).trans hca⟩
 have HA : Hid (∀ j,j < na → ∃ a,pa = some a ∧ WB.cell? (a.add j) = some (.string (auth.getD j nix))):=fun j hj => by
  obtain ⟨a,e,hOa,hca⟩:=ha.2 j (by rw [HNA.out];exact hj)
  exact ⟨a,e,(World.cell?_of_block (by rw [add_block];exact hbw.block _ (hO _ hOa))).trans hca⟩
 have HSG : Hid (∀ j,j < ns → ∃ b o,ps = some ⟨b,o,none⟩ ∧ WB.cell? ⟨b,o + j * 2,none⟩ = some (.string (sigs.getD j (nix,nix)).1) ∧ WB.cell? ⟨b,o + j * 2 + 1,none⟩ = some (.string (sigs.getD j (nix,nix)).2)):=fun j hj => by
  obtain ⟨b,o,e,hOb,h1,h2⟩:=hs.2 j (by rw [HNS.out];exact hj)
  exact ⟨b,o,e,(World.cell?_of_block (a:=⟨b,o + j * 2,none⟩) (hbw.block _ (hO _ hOb))).trans h1,(World.cell?_of_block (a:=⟨b,o + j * 2 + 1,none⟩) (hbw.block _ (hO _ hOb))).trans h2⟩
 have HL : Hid (∀ n,Calls Tryz.prog 23 #[.agg #[.int .i64 k,.int .i64 i,.string t,.slice pk ks.length ck,.slice pl l.length cl],.int .i64 300,.int .i64 20] (WB.drewN n) fun x w' => (∃ r : Int,x = .returned (.int .i64 r) ∧ r ≤ 300 ∧ -1 ≤ r ∧ (0 ≤ r → szJ 20 (.mk k i t ks l) = true)) ∧ Below (WB.drewN n).heap.size (WB.drewN n) w'):=fun n =>
  elefts 20 (WB.drewN n) O (.mk k i t ks l) k i 20 300 t pk pl ks.length ck l.length cl (fun b hb => Nat.lt_of_lt_of_le (hO b hb) (below_in hbw (Id.below_drewN WB n)).size) rfl (by decide) (by decide) (by decide) (hc.carry fun b hb => ⟨hb,(below_in hbw (Id.below_drewN WB n)).block b (hO b hb)⟩)
 have HBW : Hid (Below w.heap.size w WB):=hbw
 have HZS : Hid (∀ x ∈ sigs,x.1.size ≤ 140737488355328 ∧ x.2.size ≤ 140737488355328):=z15
 clear hc hp ha hs hO hbw z15
 have q0:=six_c hrs 0 _ rfl;have q1:=six_c hrs 1 _ rfl;have q2:=six_c hrs 2 _ rfl;have q4:=six_c hrs 4 _ rfl;have q14:=six_c hrs 14 _ rfl;have q10:=six_c hrs 10 _ rfl;have q11:=six_c hrs 11 _ rfl;have q15:=six_c hrs 15 _ rfl
 have q5:=six_c hrs 5 _ rfl;have q6:=six_c hrs 6 _ rfl;have q7:=six_c hrs 7 _ rfl;have q8:=six_c hrs 8 _ rfl;have q9:=six_c hrs 9 _ rfl
 go_enter Tryz.func9,Tryz.ntmps9
 go_wp2
 rw [← hWB]
 clear hWB hrs
 go_loopw [3] (fun v wr => ∃ m : Nat,v = .int .i64 m ∧ m ≤ np ∧ Hid (∀ x,x < m → (prev.getD x nix).size ≤ 100) ∧ wr = WB) (fun v _ => np - (intOf v).toNat)
 case atStart => exact ⟨0,rfl,Nat.zero_le _,fun m hm => absurd hm (by omega),rfl⟩
 case round =>
  obtain ⟨m,rfl,hm,HX,rfl⟩:=hrel
  by_cases hlt : m < np
  · have hmi : (m : Int) < (np : Int):=by omega
    obtain ⟨a,rfl,hca1⟩:=HP.out m hlt
    obtain ⟨u,hu⟩ : ∃ u,prev.getD m nix = u:=⟨_,rfl⟩
    have HU : Hid (prev.getD m nix = u):=hu
    rw [hu] at hca1
    clear hu
    by_cases hus : (100 : Int) < u.size
    · go_wp2
      go_ret
      exact HNO.out _ HBW.out _ rfl
    · go_wp2
      go_roundw
      case rel => exact ⟨m + 1,by go_num,hlt,fun x hx => (Nat.lt_succ_iff_lt_or_eq.1 hx).elim (HX.out x) fun e => by rw [e,HU.out];omega,trivial⟩
      case measure => simp [intOf];omega
  · obtain rfl : m = np:=by omega
    have HXP : Hid (∀ x ∈ prev,x.size ≤ 100):=all_getD (by rw [HNP.out];exact HX.out)
    clear HX hlt hm
    go_wp2
    go_loopw [4] (fun v wr2 => ∃ n : Nat,v = .int .i64 n ∧ n ≤ na ∧ Hid (∀ x,x < n → (auth.getD x nix).size ≤ 100) ∧ wr2 = wr) (fun v _ => na - (intOf v).toNat)
    case atStart => exact ⟨0,rfl,Nat.zero_le _,fun m hm => absurd hm (by omega),rfl⟩
    case round =>
     obtain ⟨n,rfl,hn,HX,rfl⟩:=hrel
     by_cases hlt : n < na
     · have hmi : (n : Int) < (na : Int):=by omega
       obtain ⟨a,rfl,hca1⟩:=HA.out n hlt
       obtain ⟨u,hu⟩ : ∃ u,auth.getD n nix = u:=⟨_,rfl⟩
       have HU : Hid (auth.getD n nix = u):=hu
       rw [hu] at hca1
       clear hu
       by_cases hus : (100 : Int) < u.size
       · go_wp2
         go_ret
         exact HNO.out _ HBW.out _ rfl
       · go_wp2
         go_roundw
         case rel => exact ⟨n + 1,by go_num,hlt,fun x hx => (Nat.lt_succ_iff_lt_or_eq.1 hx).elim (HX.out x) fun e => by rw [e,HU.out];omega,trivial⟩
         case measure => simp [intOf];omega
     · obtain rfl : n = na:=by omega
       have HXA : Hid (∀ x ∈ auth,x.size ≤ 100):=all_getD (by rw [HNA.out];exact HX.out)
       clear HX hlt hn
       go_wp2
       go_loopw [5] (fun v wr3 => ∃ (h d : Nat),v = .int .i64 h ∧ h ≤ ns ∧ Hid (∀ x,x < h → (sigs.getD x (nix,nix)).1.size + (sigs.getD x (nix,nix)).2.size ≤ 200) ∧ wr3 = wr.drewN d) (fun v _ => ns - (intOf v).toNat)
       case atStart => exact ⟨0,0,rfl,Nat.zero_le _,fun m hm => absurd hm (by omega),rfl⟩
       case round =>
        obtain ⟨h,d,rfl,hh,HX,rfl⟩:=hrel
        by_cases hlt : h < ns
        · have hmi : (h : Int) < (ns : Int):=by omega
          obtain ⟨b,o,rfl,hc1,hc2⟩:=HSG.out h hlt
          have hmem : sigs.getD h (nix,nix) ∈ sigs:=by
           rw [List.getD_eq_getElem?_getD,List.getElem?_eq_getElem (by rw [HNS.out];exact hlt)]
           exact List.getElem_mem _
          have hz:=HZS.out _ hmem
          obtain ⟨uv,huv⟩ : ∃ u,sigs.getD h (nix,nix) = u:=⟨_,rfl⟩
          have HU : Hid (sigs.getD h (nix,nix) = uv):=huv
          rw [huv] at hc1 hc2 hz
          clear huv hmem
          obtain ⟨u,v⟩:=uv
          obtain ⟨y1,y2⟩:=hz
          simp only at hc1 hc2 y1 y2
          by_cases hus : (200 : Int) < (u.size : Int) + v.size
          · go_wp2
            refine wp_region_quiet_lit (by kernel_rfl) (by kernel_rfl) ?_
            repeat (any_goals (first | go_big_quiet_step (fail) | quiet_step (fail)))
            refine wpQuiet_nil ?_
            intro _ hw
            obtain ⟨nq,hw⟩:=hw
            subst hw
            go_wp2
            go_ret
            exact HNO.out _ (below_in HBW.out (by simpa [World.drewN_drewN] using Id.below_drewN _ _)) _ rfl
          · go_wp2
            refine wp_region_quiet_lit (by kernel_rfl) (by kernel_rfl) ?_
            repeat (any_goals (first | go_big_quiet_step (fail) | quiet_step (fail)))
            refine wpQuiet_nil ?_
            intro _ hw
            obtain ⟨nq,hw⟩:=hw
            subst hw
            go_wp2
            go_roundw
            case rel => exact ⟨h + 1,_,by go_num,hlt,fun x hx => (Nat.lt_succ_iff_lt_or_eq.1 hx).elim (HX.out x) fun e => by rw [e,HU.out];show u.size + v.size ≤ 200;omega,rfl⟩
            case measure => simp [intOf];omega
        · obtain rfl : h = ns:=by omega
          have hL:=HL.out d
          go_wp2_with (go_at_call 23;refine hL.mono ?_;rintro x w4 ⟨⟨r4,rfl,hr4,hr5,hr6⟩,hb4⟩)
          go_ret
          refine ⟨⟨_,rfl,fun hh => ?_⟩,below_in HBW.out (below_in (Id.below_drewN _ _) hb4)⟩
          refine ⟨H1.out,by show prev.length ≤ 30;rw [HNP.out];omega,HXP.out,by show auth.length ≤ 30;rw [HNA.out];omega,HXA.out,by show sigs.length ≤ 30;rw [HNS.out];omega,fun x hx => ?_,hr6 (of_decide_eq_true hh)⟩
          obtain ⟨y,hy,rfl⟩:=List.getElem_of_mem hx
          have:=HX.out y (by rw [← HNS.out];exact hy)
          rw [List.getD_eq_getElem?_getD,List.getElem?_eq_getElem hy] at this
          exact this
end Go.Proofs.YtldegjjaknelgaaGreatDoor
