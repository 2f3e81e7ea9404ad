/-
  Which states are small, by a contract.
  The document's event of a type and a key, its text under a key, a user's membership: by contracts.
  The document's text under a key of an event's content, and a user's membership: by contracts.
  Who is not joined does nothing but create a room, join it, or leave it: the law.
  The document's levels of a content: a number, what is told under a key, who is a user: by contracts.
-/
import Derived.Test.YtldegjjaknelgaaGreatDoorAK35
set_option maxRecDepth 100000
set_option maxHeartbeats 16000000
namespace Go.Proofs.YtldegjjaknelgaaGreatDoor
open Go.RowKit
structure FewK (l : List Kn) : Prop where
 len : l.length ≤ 20
 names : ∀ k ∈ l,k.1.size ≤ 100
 evs : ∀ k ∈ l,FewE k.2
theorem FewK.sz {l : List Kn} (h : FewK l) : SzK l:=⟨Nat.le_trans h.len (by decide),fun k hk => sz_less 13 20 _ (by decide) (h.evs k hk).cont,fun k hk => by have:=(h.evs k hk).texts;omega⟩
def FewKP (w w' : World) (l : List Kn) (x : Ending) : Prop:=(∃ b : Bool,x = .returned (.bool b) ∧ (b = true → FewK l)) ∧ Below w.heap.size w w'
theorem allK {l : List Kn} {P : Kn → Prop} (h : ∀ x,x < l.length → P (l.getD x zK)) : ∀ k ∈ l,P k:=fun k hk => by
 obtain ⟨y,hy,rfl⟩:=List.getElem_of_mem hk
 have:=h y hy
 rwa [List.getD_eq_getElem?_getD,List.getElem?_eq_getElem hy] at this
theorem few11_any {O : Nat → Prop} {w : World} {p : Option Addr} {c : Nat} {l : List Kn} (h : RdE O w p c l) (hO : ∀ b, O b → b < w.heap.size) (hB : ∀ k ∈ l, BigE k.2) :
    Calls Tryz.prog 10 #[.slice p l.length c] w fun e w' => FewKP w w' l e:=by
 obtain ⟨n,hn⟩ : ∃ n,l.length = n:=⟨_,rfl⟩
 have HN : Hid (l.length = n):=hn
 have HNO : Hid (∀ W',Below w.heap.size w W' → FewKP w W' l (.returned (.bool false))):=fun W' h => ⟨⟨false,rfl,fun h => by cases h⟩,h⟩
 have hc:=h.1
 rw [hn] at hc ⊢
 clear hn
 by_cases h20 : (20 : Int) < n
 · go_enter Tryz.func10,Tryz.ntmps10
   go_wp2
   go_ret
   exact HNO.out _ (Below.refl _ _)
 have HR : Hid (∀ k,k < n → ∃ b o q,p = some ⟨b,o,none⟩ ∧ b < w.heap.size ∧ (∀ X,Below w.heap.size w X → X.cell? ⟨b,o + k * 17,none⟩ = some (.string (l.getD k zK).1) ∧ X.rangeAt b (o + k * 17 + 1) (cellsE (l.getD k zK).2 q) ∧ IsE (· < w.heap.size) X (l.getD k zK).2 q)):=fun k hk => by
  obtain ⟨b,o,q,hp,hOb,hcells,hE⟩:=h.2 k (by rw [HN.out];exact hk)
  refine ⟨b,o,q,hp,hO b hOb,fun X hX => ⟨(hX.cell (p:=⟨b,o + k * 17,none⟩) (hO b hOb)).trans (hcells 0 _ rfl),fun j v hv => ?_,hE.carry fun y hy => ⟨hO y hy,hX.block y (hO y hy)⟩⟩⟩
  rw [show o + k * 17 + 1 + j = o + k * 17 + (j + 1) by omega]
  exact (hX.cell (p:=⟨b,o + k * 17 + (j + 1),none⟩) (hO b hOb)).trans (hcells (j + 1) v hv)
 have HBG : Hid (∀ k,k < n → BigE (l.getD k zK).2):=fun k hk => hB _ (getK_mem (by rw [HN.out];exact hk))
 clear h hB
 go_enter Tryz.func10,Tryz.ntmps10
 go_wp2
 go_loopw [3] (fun i wx => ∃ k : Nat,i = .int .i64 k ∧ k ≤ n ∧ Hid (∀ x,x < k → (l.getD x zK).1.size ≤ 100 ∧ FewE (l.getD x zK).2) ∧ Below w.heap.size w wx) (fun i _ => n - (intOf i).toNat)
 case atStart => exact ⟨0,rfl,Nat.zero_le _,fun m hm => absurd hm (by omega),Below.refl _ _⟩
 case round =>
  obtain ⟨k,rfl,hk,HF,hbw⟩:=hrel
  by_cases hlt : k < n
  · have hki : (k : Int) < (n : Int):=by omega
    obtain ⟨b,o,q,rfl,hbl,hX⟩:=HR.out k hlt
    obtain ⟨hc0,hrg,hE⟩:=hX wr hbw
    have HRG:=(show Hid _ from hrg)
    have hFew:=eFew_any (l.getD k zK).2 q wr hE (fun y hy => Nat.lt_of_lt_of_le hy hbw.size) (HBG.out k hlt)
    obtain ⟨x,hx⟩ : ∃ x,l.getD k zK = x:=⟨_,rfl⟩
    have HU : Hid (l.getD k zK = x):=hx
    rw [hx] at hc0 hFew HRG
    clear hx hrg hE hX
    unfold valE at hFew
    by_cases hs : (100 : Int) < x.1.size
    · go_wp2
      go_ret
      exact HNO.out _ hbw
    · have hs2 : x.1.size ≤ 100:=by omega
      go_wp2_with (first
       | (refine wpList_load_midg (by kernel_rfl) 28 _ rfl b (o + k * 17 + 1) rfl (cellsE x.2 q) (run_loadAt_mid _ b (o + k * 17 + 1) 28 (cellsE x.2 q) _ HRG.out Tryz.underlying28 rfl infoE) ?_)
       | (go_at_call 9;refine hFew.mono ?_;rintro e w1 ⟨⟨bo,rfl,hbo⟩,hb1⟩;cases bo))
      · go_ret
        exact HNO.out _ (belowP hbw hb1)
      · go_roundw
        case rel => exact ⟨k + 1,by go_num,hlt,fun y hy => (Nat.lt_succ_iff_lt_or_eq.1 hy).elim (HF.out y) fun e => by rw [e,HU.out];exact ⟨hs2,hbo (by trivial)⟩,belowP hbw hb1⟩
        case measure => simp [intOf];omega
  · obtain rfl : k = n:=by omega
    go_wp2
    go_ret
    refine ⟨⟨true,rfl,fun _ => ⟨by rw [HN.out];omega,?_,?_⟩⟩,hbw⟩
    · exact allK (P:=fun k => k.1.size ≤ 100) (by rw [HN.out];exact fun x hx => (HF.out x hx).1)
    · exact allK (P:=fun k => FewE k.2) (by rw [HN.out];exact fun x hx => (HF.out x hx).2)
theorem rfind_any {O : Nat → Prop} {w : World} {p : Option Addr} {c : Nat} {l : List Kn} (h : RdE O w p c l) (hO : ∀ b, O b → b < w.heap.size) (hz : l.length ≤ 100000) (kind key : ByteArray) :
    Calls Tryz.prog 21 #[.slice p l.length c,.string kind,.string key] w fun e w' => FindP O w' (findT l kind key) e ∧ Below w.heap.size w w':=by
 obtain ⟨W0,hW0⟩ : ∃ W0,W0 = w.alloc (.cells (cellsK zK Pt.zero).toArray 41):=⟨_,rfl⟩
 have hb0 : Below w.heap.size w W0:=by rw [hW0];exact (Below.refl _ _).alloc (Nat.le_refl _) _
 have hX0 : W0.heap[w.heap.size]? = some (.cells (cellsK zK Pt.zero).toArray 41 (0,0)):=by rw [hW0];exact newP _
 have HR : Hid (∀ X,Below W0.heap.size W0 X → X.heap[w.heap.size]? = some (.cells (cellsK zK Pt.zero).toArray 41 (0,0))):=fun X hX => (hX.block _ (objP_lt hX0)).trans hX0
 have HBE : Hid (∀ X,Below W0.heap.size W0 X → ∀ cs : Array Value,Below w.heap.size w (X.setRow w.heap.size cs)):=fun X hX cs => (belowP hb0 hX).trans ((keep_setRow X w.heap.size cs).below (belowP hb0 hX).size fun q hq e => by unfold OneP at e;omega)
 have HLT : Hid (w.heap.size < W0.heap.size):=objP_lt hX0
 obtain ⟨n,hn⟩ : ∃ n,l.length = n:=⟨_,rfl⟩
 have HN : Hid (l.length = n):=hn
 have hc:=h.1
 rw [hn] at hz hc ⊢
 clear hn hX0
 go_enter Tryz.func21,Tryz.ntmps21
 go_upto_region 1 with fail
 change Code.wp _ _ _ _ (w.alloc (.cells (cellsK zK Pt.zero).toArray 41))
 rw [← hW0]
 clear hW0
 go_wp2
 go_loopw [8] (fun i wr => ∃ k : Nat,i = .int .i64 k ∧ k ≤ n ∧ Hid (findT (l.take k) kind key = none) ∧ Below W0.heap.size W0 wr) (fun i _ => n - (intOf i).toNat)
 case atStart => exact ⟨0,rfl,Nat.zero_le _,rfl,Below.refl _ _⟩
 case round =>
  obtain ⟨k,rfl,hk,HF,hbw⟩:=hrel
  by_cases hlt : k < n
  · have hki : (k : Int) < (n : Int):=by omega
    have hkl : k < l.length:=by rw [HN.out];exact hlt
    obtain ⟨b,o,q,rfl,hOb,hcells,hE⟩:=h.2 k hkl
    have hbl:=hO b hOb
    have HM : Hid (isAt kind key (l.getD k zK) = false → findT (l.take (k + 1)) kind key = none):=find_miss HF.out hkl
    have HH : Hid (isAt kind key (l.getD k zK) = true → findT l kind key = some (l.getD k zK)):=find_hit HF.out hkl
    generalize l.getD k zK = x at hcells hE HM HH
    have hbW:=belowP hb0 hbw
    have HCC : Hid (∀ X,Below w.heap.size w X → X.rangeAt b (o + k * 17) (cellsK x q)):=fun X hX m v hv => (hX.cell (p:=⟨b,o + k * 17 + m,none⟩) hbl).trans (hcells m v hv)
    have HC1 : Hid (wr.rangeAt b (o + k * 17 + 1) (cellsE x.2 q)):=fun m v hv => by
     rw [show o + k * 17 + 1 + m = o + k * 17 + (m + 1) by omega]
     exact HCC.out wr hbW (m + 1) v hv
    clear hcells
    have HX : Hid (∀ e w',e = Ending.returned (.tuple #[valK x q,.bool true]) → Below w.heap.size w w' → findT l kind key = some x → FindP O w' (findT l kind key) e ∧ Below w.heap.size w w'):=fun e w' he hb hf => ⟨by rw [hf];exact ⟨q,he,hE.carry fun y hy => ⟨hy,hb.block y (hO y hy)⟩⟩,hb⟩
    clear hE
    simp only [isAt] at HM HH
    go_upto_region 5 with (first
     | (refine wpList_load_mid rfl 28 _ rfl b (o + k * 17 + 1) rfl (cellsE x.2 q) _ HC1.out Tryz.underlying28 rfl infoE ?_)
     | (refine wpList_store_row rfl 28 _ _ rfl wr.heap.size 28 _ (cellsE x.2 q).toArray rfl rfl (newP _) infoE rfl (one_E _ _) ?_))
    have hbA : Below wr.heap.size wr ((wr.alloc (.cells (cellsE Ev.zero Pt.zero).toArray 28)).setRow wr.heap.size (cellsE x.2 q).toArray):=((Below.refl _ _).alloc (Nat.le_refl _) _).trans ((keep_setRow _ wr.heap.size _).below (by simp) fun q hq e => by unfold OneP at e;omega)
    have hXA : ((wr.alloc (.cells (cellsE Ev.zero Pt.zero).toArray 28)).setRow wr.heap.size (cellsE x.2 q).toArray).heap[wr.heap.size]? = some (.cells (cellsE x.2 q).toArray 28 (0,0)):=setRow_heap _ _ _ _ _ _ (newP _)
    change Code.wp _ _ _ _ ((wr.alloc (.cells (cellsE Ev.zero Pt.zero).toArray 28)).setRow wr.heap.size (cellsE x.2 q).toArray)
    generalize (wr.alloc (.cells (cellsE Ev.zero Pt.zero).toArray 28)).setRow wr.heap.size (cellsE x.2 q).toArray = W1 at hbA hXA
    have hB1:=belowP hbw hbA
    have HCK:=(show Hid _ from HCC.out W1 (belowP hb0 hB1))
    have d1 : W1.cell? ⟨wr.heap.size,1,none⟩ = some (.string x.2.typ):=cellP hXA 1 _ rfl
    have d3 : W1.cell? ⟨wr.heap.size,3,none⟩ = some (.bool x.2.st):=cellP hXA 3 _ rfl
    have d4 : W1.cell? ⟨wr.heap.size,4,none⟩ = some (.string x.2.key):=cellP hXA 4 _ rfl
    clear hXA hbA HC1 HCC hbW hbw
    generalize x.2.st = st at d3 HM HH
    generalize x.2.typ = typ at d1 HM HH
    generalize x.2.key = ke at d4 HM HH
    cases st with
    | false =>
     have HMM:=(show Hid _ from HM.out (by simp))
     go_wp2
     go_roundw
     case rel => exact ⟨k + 1,by go_num,hlt,HMM,hB1⟩
     case measure => simp [intOf];omega
    | true =>
     cases h1 : (typ.toList == kind.toList) with
     | false =>
      have HMM:=(show Hid _ from HM.out (by simp [h1]))
      go_wp2
      go_roundw
      case rel => exact ⟨k + 1,by go_num,hlt,HMM,hB1⟩
      case measure => simp [intOf];omega
     | true =>
      cases h2 : (ke.toList == key.toList) with
      | false =>
       have HMM:=(show Hid _ from HM.out (by simp [h1,h2]))
       go_wp2
       go_roundw
       case rel => exact ⟨k + 1,by go_num,hlt,HMM,hB1⟩
       case measure => simp [intOf];omega
      | true =>
       have HHH:=(show Hid _ from HH.out (by simp [h1,h2]))
       have HR1:=(show Hid _ from HR.out W1 hB1)
       clear HM HH
       go_wp2_with (first
        | (refine wpList_load_mid rfl 41 _ rfl b (o + k * 17) rfl (cellsK x q) _ HCK.out Tryz.underlying41 rfl infoK ?_)
        | (refine wpList_store_row rfl 41 _ _ rfl w.heap.size 41 _ (cellsK x q).toArray rfl rfl HR1.out infoK rfl (one_K x q) ?_))
       refine bodyPost_ret (resultsP_cell_tmp rfl _ _ _ rfl (loadK_at (range_of (setRow_heap _ _ _ _ _ _ HR1.out)))) rfl ?_
       exact HX.out _ _ rfl (HBE.out _ hB1 _) HHH.out
  · obtain rfl : k = n:=by omega
    have HNO : Hid (findT l kind key = none):=by
     have:=HF.out
     rw [List.take_of_length_le (by rw [HN.out];omega)] at this
     exact this
    have HR1:=(show Hid _ from HR.out wr hbw)
    go_wp2_with (refine wpList_store_row rfl 41 _ _ rfl w.heap.size 41 _ (cellsK zK Pt.zero).toArray rfl rfl HR1.out infoK rfl (one_K zK Pt.zero) ?_)
    refine bodyPost_ret (resultsP_cell_tmp rfl _ _ _ rfl (loadK_at (range_of (setRow_heap _ _ _ _ _ _ HR1.out)))) rfl ?_
    refine ⟨?_,HBE.out _ hbw _⟩
    rw [HNO.out]
    rfl
theorem rfind_got {O : Nat → Prop} {w : World} {p : Option Addr} {c : Nat} {l : List Kn} (h : RdE O w p c l) (hO : ∀ b, O b → b < w.heap.size) (hz : l.length ≤ 100000) (kind key : ByteArray) :
    Calls Tryz.prog 21 #[.slice p l.length c,.string kind,.string key] w fun e w' => (∃ q,e = .returned (.tuple #[valK ((findT l kind key).getD zK) q,.bool (findT l kind key).isSome]) ∧ IsE O w' ((findT l kind key).getD zK).2 q) ∧ Below w.heap.size w w':=by
 refine (rfind_any h hO hz kind key).mono fun e w' hh => ?_
 generalize findT l kind key = o at hh
 cases o with
 | none => exact ⟨⟨Pt.zero,hh.1,isE_zero _ _⟩,hh.2⟩
 | some k =>
  obtain ⟨⟨q,he,hi⟩,hb⟩:=hh
  exact ⟨⟨q,he,hi⟩,hb⟩
theorem rtext_any {O : Nat → Prop} {w : World} {e : Ev} {p : Pt} (h : IsE O w e p) (hO : ∀ b, O b → b < w.heap.size) (hz : szJ 13 e.content = true) (s : ByteArray) :
    Calls Tryz.prog 19 #[valE e p,.string s] w fun x w' => x = .returned (.string (textT e.content s)) ∧ Below w.heap.size w w':=by
 obtain ⟨W0,hW0⟩ : ∃ W0,W0 = w.alloc (.cells (cellsE e p).toArray 28):=⟨_,rfl⟩
 have hb0 : Below w.heap.size w W0:=by rw [hW0];exact (Below.refl _ _).alloc (Nat.le_refl _) _
 have hX0 : W0.heap[w.heap.size]? = some (.cells (cellsE e p).toArray 28 (0,0)):=by rw [hW0];exact newP _
 have hV:=isV_new h hO hb0 hX0
 have HRJ:=(show Hid _ from hV.rangeJ)
 have hG:=get_any (O:=(· < W0.heap.size)) (w:=W0) (j:=e.content) hV.ev.cont (fun _ h => h) (szP_keys hz) s
 have HT : Hid (textT e.content s = txtT (getT e.content s)):=rfl
 clear h hV hX0 hz
 unfold valE
 generalize getT e.content s = g at hG HT
 cases g with
 | none =>
  unfold UnderT zJP at hG
  go_enter Tryz.func19,Tryz.ntmps19
  go_upto_region 1 with fail
  rw [← hW0]
  clear hW0
  go_wp2_with (first
   | (refine wpList_load_mid rfl 25 _ rfl w.heap.size 5 rfl _ _ HRJ.out Tryz.underlying25 rfl (by kernel_rfl) ?_)
   | (go_at_call 43;refine hG.mono ?_;rintro x w1 ⟨rfl,hb1⟩))
  go_ret
  exact ⟨by rw [HT.out];rfl,belowP hb0 (belowP hb1 ((Below.refl _ _).alloc (Nat.le_refl _) _))⟩
 | some v =>
  obtain ⟨vk,vi,vt,vks,vls⟩:=v
  unfold UnderT at hG
  have hG2 : Calls Tryz.prog 43 #[.agg #[.int .i64 e.content.kind,.int .i64 e.content.int,.string e.content.text,.slice p.pk e.content.keys.length p.ck,.slice p.pl e.content.list.length p.cl],.string s] W0 fun x w' => (∃ i p n c q m d,x = .returned (.tuple #[.agg #[.int .i64 vk,.int .i64 i,.string vt,.slice p n c,.slice q m d],.bool true])) ∧ Below W0.heap.size W0 w':=by
   refine hG.mono fun x w' hh => ⟨?_,hh.2⟩
   obtain ⟨k,i,t,p',n,c,q,m,d,hx,hj⟩:=hh.1
   obtain ⟨rfl,rfl,rfl,_⟩:=isJP_parts hj
   exact ⟨_,_,_,_,_,_,_,hx⟩
  clear hG
  cases h3 : decide (vk = 3) with
  | true =>
   obtain rfl : vk = 3:=by simpa using h3
   go_enter Tryz.func19,Tryz.ntmps19
   go_upto_region 1 with fail
   rw [← hW0]
   clear hW0
   go_wp2_with (first
    | (refine wpList_load_mid rfl 25 _ rfl w.heap.size 5 rfl _ _ HRJ.out Tryz.underlying25 rfl (by kernel_rfl) ?_)
    | (go_at_call 43;refine hG2.mono ?_;rintro x w1 ⟨⟨i,p',n,c,q,m,d,rfl⟩,hb1⟩))
   go_ret
   exact ⟨by rw [HT.out];rfl,belowP hb0 (belowP hb1 ((Below.refl _ _).alloc (Nat.le_refl _) _))⟩
  | false =>
   have h4 : ¬ vk = 3:=by simpa using h3
   have h5 : (vk == 3) = false:=by simpa using h3
   go_enter Tryz.func19,Tryz.ntmps19
   go_upto_region 1 with fail
   rw [← hW0]
   clear hW0
   go_wp2_with (first
    | (refine wpList_load_mid rfl 25 _ rfl w.heap.size 5 rfl _ _ HRJ.out Tryz.underlying25 rfl (by kernel_rfl) ?_)
    | (go_at_call 43;refine hG2.mono ?_;rintro x w1 ⟨⟨i,p',n,c,q,m,d,rfl⟩,hb1⟩))
   go_ret
   exact ⟨by rw [HT.out];exact congrArg (fun b => Ending.returned (.string b)) (if_neg h4).symm,belowP hb0 (belowP hb1 ((Below.refl _ _).alloc (Nat.le_refl _) _))⟩
theorem rmember_any {O : Nat → Prop} {w : World} {p : Option Addr} {c : Nat} {l : List Kn} (h : RdE O w p c l) (hO : ∀ b, O b → b < w.heap.size) (hz : SzK l) (u : ByteArray) :
    Calls Tryz.prog 18 #[.slice p l.length c,.string u] w fun e w' => e = .returned (.string (membT l u)) ∧ Below w.heap.size w w':=by
 have hF:=rfind_any h hO hz.len tMember u
 have HSZ : Hid (szJ 13 ((findT l tMember u).getD zK).2.content = true):=find_sz hz tMember u
 have HT : Hid (membT l u = textT ((findT l tMember u).getD zK).2.content nMemb):=rfl
 clear h hz
 generalize findT l tMember u = f at hF HSZ HT
 cases f with
 | none =>
  have hF0 : Calls Tryz.prog 21 #[.slice p l.length c,.string tMember,.string u] w fun e w' => e = .returned (.tuple #[.agg (cellsK zK Pt.zero).toArray,.bool false]) ∧ Below w.heap.size w w':=hF
  clear hF
  go_enter Tryz.func18,Tryz.ntmps18
  go_wp2_with (first
   | (go_at_call 21;refine hF0.mono ?_;rintro e w1 ⟨rfl,hb1⟩)
   | (refine wpList_store_row rfl 41 _ _ rfl w1.heap.size 41 _ (cellsK zK Pt.zero).toArray rfl rfl (newP _) infoK rfl (one_K zK Pt.zero) ?_))
  go_ret
  refine ⟨by rw [HT.out];rfl,belowP hb1 ?_⟩
  exact ((Below.refl _ _).alloc (Nat.le_refl _) _).trans ((keep_setRow _ w1.heap.size _).below (by simp) fun q hq e => by unfold OneP at e;omega)
 | some k =>
  have hF0 : Calls Tryz.prog 21 #[.slice p l.length c,.string tMember,.string u] w fun e w' => (∃ q,e = .returned (.tuple #[.agg (cellsK k q).toArray,.bool true]) ∧ IsE O w' k.2 q) ∧ Below w.heap.size w w':=hF
  clear hF
  go_enter Tryz.func18,Tryz.ntmps18
  go_upto_region 2 with (first
   | (go_at_call 21;refine hF0.mono ?_;rintro e w1 ⟨⟨q,rfl,hq⟩,hb1⟩)
   | (refine wpList_store_row rfl 41 _ _ rfl w1.heap.size 41 _ (cellsK k q).toArray rfl rfl (newP _) infoK rfl (one_K k q) ?_))
  have hbA : Below w1.heap.size w1 ((w1.alloc (.cells (cellsK zK Pt.zero).toArray 41)).setRow w1.heap.size (cellsK k q).toArray) :=
   ((Below.refl _ _).alloc (Nat.le_refl _) _).trans ((keep_setRow _ w1.heap.size _).below (by simp) fun q hq e => by unfold OneP at e;omega)
  have hX : ((w1.alloc (.cells (cellsK zK Pt.zero).toArray 41)).setRow w1.heap.size (cellsK k q).toArray).heap[w1.heap.size]? = some (.cells (cellsK k q).toArray 41 (0,0)):=setRow_heap _ _ _ _ _ _ (newP _)
  change Code.wp _ _ _ _ ((w1.alloc (.cells (cellsK zK Pt.zero).toArray 41)).setRow w1.heap.size (cellsK k q).toArray)
  generalize (w1.alloc (.cells (cellsK zK Pt.zero).toArray 41)).setRow w1.heap.size (cellsK k q).toArray = W1 at hbA hX
  have HR : Hid (W1.rangeAt w1.heap.size 1 (cellsE k.2 q)):=range_sub hX 1 rfl
  have hTx:=rtext_any (O:=O) (w:=W1) (e:=k.2) (p:=q) (hq.carry fun x hx => ⟨hx,hbA.block x (Nat.lt_of_lt_of_le (hO x hx) hb1.size)⟩) (fun b hb => Nat.lt_of_lt_of_le (hO b hb) (Nat.le_trans hb1.size hbA.size)) HSZ.out nMemb
  unfold valE at hTx
  clear hX hq
  go_wp2_with (first
   | (refine wpList_load_mid rfl 28 _ rfl w1.heap.size 1 rfl (cellsE k.2 q) _ HR.out Tryz.underlying28 rfl infoE ?_)
   | (go_at_call 19;refine hTx.mono ?_;rintro e w2 ⟨rfl,hb2⟩))
  go_ret
  exact ⟨by rw [HT.out];rfl,belowP hb1 (belowP hbA hb2)⟩
theorem judge_zero {e : Ev} {l : List Kn} (h : judgeT e l = 0) : shapedE e = true ∧ askT e l = true:=by
 unfold judgeT at h
 split at h
 · rename_i hs
   split at h
   · rename_i ha
     exact ⟨hs,ha⟩
   · cases h
 · cases h
theorem ask_open {e : Ev} {l : List Kn} (h : judgeT e l = 0) (hc : eqT e.typ tCreate = false) : ∃ H,openT e l = some H ∧ H.ask = true ∧ H.e = e ∧ H.st = l:=by
 have ha:=(judge_zero h).2
 unfold askT at ha
 rw [if_neg (by rw [hc];decide)] at ha
 split at ha
 · cases ha
 · rename_i H hH
   exact ⟨H,hH,ha,(open_e hH).1,(open_e hH).2⟩
theorem rNumber_any {w : World} (k i : Int) (t : ByteArray) (p q : Option Addr) (n c m d : Nat) :
    Calls Tryz.prog 102 #[.agg #[.int .i64 k,.int .i64 i,.string t,.slice p n c,.slice q m d]] w fun e w' => e = .returned (.tuple #[.int .i64 i,.bool (lvOk k i)]) ∧ Below w.heap.size w w':=by
 obtain ⟨wA,hwA⟩ : ∃ wA,wA = w.alloc (.cells #[.int .i64 k,.int .i64 i,.string t,.slice p n c,.slice q m d] 25):=⟨_,rfl⟩
 have hbA : Below w.heap.size w wA:=by rw [hwA];exact (Below.refl _ _).alloc (Nat.le_refl _) _
 have hA : wA.heap[w.heap.size]? = some (.cells #[.int .i64 k,.int .i64 i,.string t,.slice p n c,.slice q m d] 25 (0,0)):=by rw [hwA];exact newP _
 have i0:=cellP hA 0 _ rfl;have i1:=cellP hA 1 _ rfl
 have HE : Hid (∀ n,Below w.heap.size w (wA.drewN n)):=fun n => belowP hbA (belowN wA n)
 clear hA hbA
 have HL : Hid (lvOk k i = (decide (k = 2) && (decide (-1073741824 ≤ i) && decide (i ≤ 1073741824)))):=rfl
 by_cases h2 : k = 2
 · subst h2
   by_cases ha : -1073741824 ≤ i
   · by_cases hb : i ≤ 1073741824
     · have hd1 : decide (-1073741824 ≤ i) = true:=decide_eq_true ha
       have hd2 : decide (i ≤ 1073741824) = true:=decide_eq_true hb
       rw [HL.out]
       simp only [ha,hb,decide_true,Bool.and_self]
       go_enter Tryz.func102,Tryz.ntmps102
       go_wp2
       rw [← hwA]
       clear hwA
       go_quiet (fail)
       go_wp2
       go_ret2
       exact ⟨rfl,HE.out _⟩
     · have hd1 : decide (-1073741824 ≤ i) = true:=decide_eq_true ha
       have hd2 : decide (i ≤ 1073741824) = false:=decide_eq_false hb
       rw [HL.out]
       simp only [ha,hb,decide_true,decide_false,Bool.and_false]
       go_enter Tryz.func102,Tryz.ntmps102
       go_wp2
       rw [← hwA]
       clear hwA
       go_quiet (fail)
       go_wp2
       go_ret2
       exact ⟨rfl,HE.out _⟩
   · have hd : decide (-1073741824 ≤ i) = false:=decide_eq_false ha
     rw [HL.out]
     simp only [ha,decide_true,decide_false,Bool.false_and,Bool.and_false]
     go_enter Tryz.func102,Tryz.ntmps102
     go_wp2
     rw [← hwA]
     clear hwA
     go_quiet (fail)
     go_wp2
     go_ret2
     exact ⟨rfl,HE.out _⟩
 · have hd : (k == 2) = false:=by simp [h2]
   have hd' : decide (k = 2) = false:=decide_eq_false h2
   rw [HL.out]
   simp only [h2,decide_false,Bool.false_and]
   go_enter Tryz.func102,Tryz.ntmps102
   go_wp2
   rw [← hwA]
   clear hwA
   go_quiet (fail)
   go_wp2
   go_ret2
   exact ⟨rfl,HE.out _⟩
theorem rTold_any {O : Nat → Prop} {w : World} {j : J} {k i : Int} {t : ByteArray} {pk pl : Option Addr} {nk ck nl cl : Nat} (hj : isJ O w j [.int .i64 k, .int .i64 i, .string t, .slice pk nk ck, .slice pl nl cl]) (hO : ∀ b, O b → b < w.heap.size) (hz : j.ks.length ≤ 100000) (s : ByteArray) (z : Int) :
    Calls Tryz.prog 75 #[.agg #[.int .i64 k,.int .i64 i,.string t,.slice pk nk ck,.slice pl nl cl],.string s,.int .i64 z] w fun e w' => e = .returned (.tuple #[.int .i64 (numT z (getT j s)).1,.bool (!(numT z (getT j s)).2)]) ∧ Below w.heap.size w w':=by
 obtain ⟨wA,hwA⟩ : ∃ wA,wA = w.alloc (.cells #[.int .i64 k,.int .i64 i,.string t,.slice pk nk ck,.slice pl nl cl] 25):=⟨_,rfl⟩
 have hbA : Below w.heap.size w wA:=by rw [hwA];exact (Below.refl _ _).alloc (Nat.le_refl _) _
 have hA : wA.heap[w.heap.size]? = some (.cells #[.int .i64 k,.int .i64 i,.string t,.slice pk nk ck,.slice pl nl cl] 25 (0,0)):=by rw [hwA];exact newP _
 have hG:=get_any (hj.carry (O':=O) (w':=wA) fun x hx => ⟨hx,hbA.block x (hO x hx)⟩) (fun b hb => Nat.lt_of_lt_of_le (hO b hb) hbA.size) hz s
 have i0:=cellP hA 0 _ rfl;have i1:=cellP hA 1 _ rfl;have i2:=cellP hA 2 _ rfl;have i3:=cellP hA 3 _ rfl;have i4:=cellP hA 4 _ rfl
 clear hj hO hA
 generalize getT j s = o at hG
 cases o with
 | none =>
  go_enter Tryz.func75,Tryz.ntmps75
  go_upto_region 1 with fail
  rw [← hwA]
  clear hwA
  go_wp2_with (go_at_call 43;refine hG.mono ?_;rintro e w1 ⟨he,hb1⟩;replace he : e = _:=he;subst he)
  go_ret2
  exact ⟨rfl,belowP hbA (belowP hb1 ((Below.refl _ _).alloc (Nat.le_refl _) _))⟩
 | some v =>
  have HV : Hid (∀ O w' (k i : Int) (t : ByteArray) (p q : Option Addr) (n c m d : Nat),isJ O w' v [.int .i64 k,.int .i64 i,.string t,.slice p n c,.slice q m d] → v.kd = k ∧ v.nm = i):=fun O w' k i t p q n c m d h => by
   obtain ⟨_,_,_,_,_⟩:=v
   obtain ⟨rfl,rfl,_⟩:=isJP_parts h
   exact ⟨rfl,rfl⟩
  go_enter Tryz.func75,Tryz.ntmps75
  go_upto_region 1 with fail
  rw [← hwA]
  clear hwA
  go_wp2_with (first
   | (go_at_call 43;refine hG.mono ?_;rintro e w1 ⟨⟨kv,iv,tv,pv,nv,cv,qv,mv,dv,rfl,hv⟩,hb1⟩;have HVV:=(show Hid _ from HV.out _ _ _ _ _ _ _ _ _ _ _ hv);clear hv)
   | (go_at_call 102;refine (rNumber_any _ _ _ _ _ _ _ _ _).mono ?_;rintro e w2 ⟨rfl,hb2⟩))
  go_ret2
  have HNT : Hid (numT z (some v) = (iv,!lvOk kv iv)):=by show _ = _;simp only [numT,HVV.out.1,HVV.out.2]
  refine ⟨?_,belowP hbA (belowP hb1 (belowP ((Below.refl _ _).alloc (Nat.le_refl _) _) hb2))⟩
  rw [HNT.out]
  simp only [Bool.not_not]
  rfl
end Go.Proofs.YtldegjjaknelgaaGreatDoor
