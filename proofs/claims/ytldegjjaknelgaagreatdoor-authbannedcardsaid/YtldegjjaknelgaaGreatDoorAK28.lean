/-
  The document's Order, by a contract.
  An event's JSON, and an event with its content in order: by contracts.
  The document's Put, by a contract: a map with a key and a value more.
  The document's Put, by a contract: a map with a key and a value more.
  The document's own shape of an event: its rows of names, its signatures: by contracts.
  The document's look at signatures, by a contract.
  The document's IsUser, a number, a text and a content one level deeper: by contracts.
  The contents and the events of the examples: by contracts.
  Where a text stands in a row; the text under a key of a content: by contracts.
  The event of a type and a key in a state; the text under a key of it: by contracts.
  The text under a key of the event of a type and a key: by a contract.
-/
import Derived.Test.YtldegjjaknelgaaGreatDoorAK27
import Derived.Deep.QuietTactic
set_option maxRecDepth 100000
set_option maxHeartbeats 16000000
namespace Go.Proofs.YtldegjjaknelgaaGreatDoor
open Go.RowKit
theorem rord_zero : Rords 0:=fun _ _ j _ _ _ _ _ _ _ _ _ _ hg => by unfold goodJ at hg;cases hg
theorem rords : ∀ d,Rords d
 | 0 => rord_zero
 | d + 1 => rord_step (rords d)
def ordR (j : J) : J:=if goodJ 12 j = true then ord j else J.zero
theorem two_new2 {w : World} (o1 o2 : Obj) : ((w.alloc o1).alloc o2).heap[w.heap.size + 1]? = some o2:=by
 have:=heap_alloc_new (w.alloc o1) o2
 simpa using this
theorem below_then3 {w w2 w3 : World} (h : Below w.heap.size w w2) (hk : Keep (One (w.heap.size + 1)) w2 w3) : Below w.heap.size w w3 :=
 h.trans (hk.below h.size fun k hk' e => by unfold One at e;omega)
theorem rOrder_new {w : World} {O : Nat → Prop} {j : J} {k i : Int} {t : ByteArray} {pk pl : Option Addr} {nk ck nl cl : Nat} (hO : ∀ x, O x → x < w.heap.size) (hsz : szJ 12 j = true)
    (hj : isJ O w j [.int .i64 k,.int .i64 i,.string t,.slice pk nk ck,.slice pl nl cl]) :
    Calls Tryz.prog 45 #[.agg #[.int .i64 k,.int .i64 i,.string t,.slice pk nk ck,.slice pl nl cl]] w fun x w' => (∃ kr ir tr pr nr cr qr mr dr,x = .returned (.agg #[.int .i64 kr,.int .i64 ir,.string tr,.slice pr nr cr,.slice qr mr dr]) ∧ isJ (fun b => O b ∨ (w.heap.size ≤ b ∧ b < w'.heap.size)) w' (ordR j) [.int .i64 kr,.int .i64 ir,.string tr,.slice pr nr cr,.slice qr mr dr]) ∧ Below w.heap.size w w':=by
 have hbB : Below w.heap.size w ((w.alloc (.cells #[.int .i64 k,.int .i64 i,.string t,.slice pk nk ck,.slice pl nl cl] 25)).alloc (.cells #[.int .i64 0,.int .i64 0,.string ⟨#[]⟩,.slice none 0 0,.slice none 0 0] 25)):=((Below.refl _ _).alloc (Nat.le_refl _) _).alloc (by simp) _
 obtain ⟨wB,hwB⟩ : ∃ wB,wB = ((w.alloc (.cells #[.int .i64 k,.int .i64 i,.string t,.slice pk nk ck,.slice pl nl cl] 25)).alloc (.cells #[.int .i64 0,.int .i64 0,.string ⟨#[]⟩,.slice none 0 0,.slice none 0 0] 25)):=⟨_,rfl⟩
 have hA : wB.heap[w.heap.size]? = some (.cells #[.int .i64 k,.int .i64 i,.string t,.slice pk nk ck,.slice pl nl cl] 25 (0,0)):=by
  rw [hwB,Below.heap_alloc _ _ _ (by simp)]
  exact heap_alloc_new _ _
 have hR : wB.heap[w.heap.size + 1]? = some (.cells #[.int .i64 0,.int .i64 0,.string ⟨#[]⟩,.slice none 0 0,.slice none 0 0] 25 (0,0)):=by rw [hwB];exact two_new2 _ _
 rw [← hwB] at hbB
 have hOB : ∀ x,O x → x < wB.heap.size:=fun x hx => Nat.lt_of_lt_of_le (hO x hx) hbB.size
 have hjB:=hj.carry (O':=O) (w':=wB) fun x hx => ⟨hx,hbB.block x (hO x hx)⟩
 have hG:=rGood_any hOB hsz hjB
 have hsA : w.heap.size < wB.heap.size:=(Array.getElem?_eq_some_iff.1 hA).1
 have hsR : w.heap.size + 1 < wB.heap.size:=(Array.getElem?_eq_some_iff.1 hR).1
 have c0:=five_c0 hA
 cases hg : goodJ 12 j with
 | false =>
  have HZ : Hid (ordR j = J.zero):=by show _ = _;unfold ordR;rw [hg];rfl
  rw [hg] at hG
  rw [hwB] at hG
  clear hj hjB c0
  go_enter Tryz.func45,Tryz.ntmps45
  go_wp2_with (go_at_call 37; refine hG.mono ?_; rintro x w2 ⟨rfl, hb2⟩
               rw [← hwB] at hb2
               have hres:=(hb2.block _ hsR).trans hR
               have i0:=five_c0 hres;have i1:=five_c1 hres;have i2:=five_c2 hres;have i3:=five_c3 hres;have i4:=five_c4 hres
               have z0:=five_fz hres 0;have z1:=five_fz hres 1;have z2:=five_fz hres 2;have z3:=five_fz hres 3;have z4:=five_fz hres 4)
  have h5:=set5_heap hres (.int .i64 0) (.int .i64 0) (.string ⟨#[]⟩) (.slice none 0 0) (.slice none 0 0)
  have HK5 : Keep (One (w.heap.size + 1)) w2 _:=set5_keep w2 (w.heap.size + 1) (.int .i64 0) (.int .i64 0) (.string ⟨#[]⟩) (.slice none 0 0) (.slice none 0 0)
  unfold set5 at h5 HK5
  have k0:=five_c0 h5;have k1:=five_c1 h5;have k2:=five_c2 h5;have k3:=five_c3 h5;have k4:=five_c4 h5
  refine bodyPost_ret (v:=.agg #[.int .i64 0,.int .i64 0,.string ⟨#[]⟩,.slice none 0 0,.slice none 0 0]) (by simp [results,Tryz.results45,go_sem,k0,k1,k2,k3,k4]) rfl ?_
  refine ⟨⟨_,_,_,_,_,_,_,_,_,rfl,?_⟩,below_then3 (below_in hbB hb2) HK5⟩
  rw [HZ.out]
  exact isJ_zero _ _
 | true =>
  have HZ : Hid (ordR j = ord j):=by show _ = _;unfold ordR;rw [hg];rfl
  have HGG : Hid (goodJ 12 j = true):=hg
  have HJ : Hid (isJ O wB j [.int .i64 k,.int .i64 i,.string t,.slice pk nk ck,.slice pl nl cl]):=hjB
  rw [hg] at hG
  rw [hwB] at hG
  clear hj hjB hg c0
  go_enter Tryz.func45,Tryz.ntmps45
  go_wp2_with (first
   | (go_at_call 37; refine hG.mono ?_; rintro x w2 ⟨rfl, hb2⟩
      rw [← hwB] at hb2
      have hA2:=(hb2.block _ hsA).trans hA
      have c0:=five_c0 hA2;have c1:=five_c1 hA2;have c2:=five_c2 hA2;have c3:=five_c3 hA2;have c4:=five_c4 hA2
      have hArr:=rords 12 w2 O j k i t pk pl nk ck nl cl (fun x hx => Nat.lt_of_lt_of_le (hOB x hx) hb2.size) HGG.out hsz (HJ.out.carry fun x hx => ⟨hx,hb2.block x (hOB x hx)⟩))
   | (go_at_call 74; refine hArr.mono ?_; rintro x w4 ⟨⟨kr, ir, tr, pr, nr, cr, qr, mr, dr, rfl, hjr⟩, hb4⟩
      have hB4:=below_in hb2 hb4
      have hres:=(hB4.block _ hsR).trans hR
      have i0:=five_c0 hres;have i1:=five_c1 hres;have i2:=five_c2 hres;have i3:=five_c3 hres;have i4:=five_c4 hres
      have z0:=five_fz hres 0;have z1:=five_fz hres 1;have z2:=five_fz hres 2;have z3:=five_fz hres 3;have z4:=five_fz hres 4))
  have h5:=set5_heap hres (.int .i64 kr) (.int .i64 ir) (.string tr) (.slice pr nr cr) (.slice qr mr dr)
  have HK5 : Keep (One (w.heap.size + 1)) w4 _:=set5_keep w4 (w.heap.size + 1) (.int .i64 kr) (.int .i64 ir) (.string tr) (.slice pr nr cr) (.slice qr mr dr)
  unfold set5 at h5 HK5
  have k0:=five_c0 h5;have k1:=five_c1 h5;have k2:=five_c2 h5;have k3:=five_c3 h5;have k4:=five_c4 h5
  refine bodyPost_ret (v:=.agg #[.int .i64 kr,.int .i64 ir,.string tr,.slice pr nr cr,.slice qr mr dr]) (by simp [results,Tryz.results45,go_sem,k0,k1,k2,k3,k4]) rfl ?_
  refine ⟨⟨_,_,_,_,_,_,_,_,_,rfl,?_⟩,below_then3 (below_in hbB hB4) HK5⟩
  rw [HZ.out]
  refine hjr.carry fun x hx => ?_
  have s2:=hb2.size
  have s4:=hb4.size
  rcases hx with hx | hx
  · have:=hO x hx
    exact ⟨.inl hx,HK5.block x (by have:=hbB.size;omega) (by unfold One;omega)⟩
  · have:=hx.1
    exact ⟨.inr ⟨by omega,Nat.lt_of_lt_of_le hx.2 HK5.size⟩,HK5.block x hx.2 (by unfold One;omega)⟩
end Go.Proofs.YtldegjjaknelgaaGreatDoor
namespace Go.Proofs.YtldegjjaknelgaaGreatDoor
open Go.RowKit Go.Maps
theorem loadJ5 {w : World} {b : Nat} {t : TypeId} {a0 a1 a2 a3 a4 : Value} (h : w.heap[b]? = some (.cells #[a0,a1,a2,a3,a4] t (0,0))) : (loadVar 25 ⟨b,0,none⟩).run Tryz.prog w = .ok (.agg #[a0,a1,a2,a3,a4]) w:=by
 have k0:=five_c0 h;have k1:=five_c1 h;have k2:=five_c2 h;have k3:=five_c3 h;have k4:=five_c4 h
 simp [loadVar,go_sem,k0,k1,k2,k3,k4]
end Go.Proofs.YtldegjjaknelgaaGreatDoor
namespace Go.Proofs.YtldegjjaknelgaaGreatDoor
open Go Go.RowKit Go.Maps
theorem oneCells {O : Nat → Prop} {w : World} {j : J} {cs : List Value} (h : isJ O w j cs) : ∀ u ∈ cs,u.oneCell' = true:=by
 obtain ⟨k,i,t,pk,nk,ck,pl,nl,cl,rfl⟩:=isJ_shape h
 intro u hu
 simp only [List.mem_cons,List.not_mem_nil,or_false] at hu
 rcases hu with rfl | rfl | rfl | rfl | rfl <;> rfl
theorem row_of_js {O : Nat → Prop} {w : World} {p : Option Addr} : ∀ (l : List J) (n : Nat),isJs O w p n l → ∃ xs,isRow O w l xs ∧ xs.length = l.length * 5 ∧ (∀ u ∈ xs,u.oneCell' = true) ∧ ∀ ad,p = some ad → ∀ (m : Nat) u,xs[m]? = some u → O ad.block ∧ w.cell? (ad.add (n * 5 + m)) = some u
 | [],n,_ => ⟨[],by unfold isRow;rfl,rfl,(fun u hu => absurd hu (by simp)),(fun ad _ m u h => absurd h (by simp))⟩
 | j :: r,n,h => by
  unfold isJs at h
  obtain ⟨⟨b,o,cs,rfl,hO,hc,hj⟩,hr⟩:=h
  obtain ⟨xs,h1,h2,h3,h4⟩:=row_of_js r (n + 1) hr
  have h5:=hj.five
  refine ⟨cs ++ xs,?_,by rw [List.length_append,h5,h2,List.length_cons];omega,fun u hu => ?_,fun ad e m u hm => ?_⟩
  · unfold isRow
    exact ⟨cs,xs,rfl,h5,hj,h1⟩
  · rcases List.mem_append.1 hu with hu | hu
    · exact oneCells hj u hu
    · exact h3 u hu
  · cases e
    have hadd : ∀ m,(⟨b,o,none⟩ : Addr).add m = ⟨b,o + m,none⟩:=fun m => by unfold Addr.add;split <;> simp_all
    refine ⟨hO,?_⟩
    by_cases hlt : m < 5
    · rw [List.getElem?_append_left (by omega)] at hm
      have:=hc m u hm
      rw [hadd]
      rwa [Nat.add_assoc] at this
    · rw [List.getElem?_append_right (by omega),h5] at hm
      have:=(h4 _ rfl (m - 5) u hm).2
      rw [hadd] at this ⊢
      rw [show n * 5 + m = (n + 1) * 5 + (m - 5) by omega]
      exact this
theorem rPut_any {O : Nat → Prop} {w : World} {j v : J} {k i vk vi : Int} {t vt : ByteArray} {pk pl vpk vpl : Option Addr} {nk ck nl cl vnk vck vnl vcl : Nat} (key : ByteArray) (hO : ∀ b, O b → b < w.heap.size)
    (hj : isJ O w j [.int .i64 k,.int .i64 i,.string t,.slice pk nk ck,.slice pl nl cl]) (hv : isJ O w v [.int .i64 vk,.int .i64 vi,.string vt,.slice vpk vnk vck,.slice vpl vnl vcl]) (hkp : pk = none → ck = 0) (hlp : pl = none → cl = 0) (hnk : nk ≤ 100000) (hnl : nl ≤ 100000) :
    Calls Tryz.prog 44 #[.agg #[.int .i64 k,.int .i64 i,.string t,.slice pk nk ck,.slice pl nl cl],.string key,.agg #[.int .i64 vk,.int .i64 vi,.string vt,.slice vpk vnk vck,.slice vpl vnl vcl]] w fun x w' => (∃ b1 c1 b2 c2,x = .returned (.agg #[.int .i64 5,.int .i64 0,.string ⟨#[]⟩,.slice (some ⟨b1,0,none⟩) (nk + 1) c1,.slice (some ⟨b2,0,none⟩) (nl + 1) c2]) ∧ isJ (fun b => O b ∨ New w w' b) w' (.mk 5 0 nix (j.keys ++ [key]) (j.list ++ [v])) [.int .i64 5,.int .i64 0,.string ⟨#[]⟩,.slice (some ⟨b1,0,none⟩) (nk + 1) c1,.slice (some ⟨b2,0,none⟩) (nl + 1) c2]) ∧ Below w.heap.size w w':=by
 obtain ⟨W0,hW0⟩ : ∃ W0,W0 = ((w.alloc (.cells #[.int .i64 k,.int .i64 i,.string t,.slice pk nk ck,.slice pl nl cl] 25)).alloc (.cells #[.int .i64 vk,.int .i64 vi,.string vt,.slice vpk vnk vck,.slice vpl vnl vcl] 25)).alloc (.cells #[.int .i64 0,.int .i64 0,.string ⟨#[]⟩,.slice none 0 0,.slice none 0 0] 25):=⟨_,rfl⟩
 have hbw : Below w.heap.size w W0:=by rw [hW0];exact (((Below.refl _ _).alloc (Nat.le_refl _) _).alloc (by simp) _).alloc (by simp;omega) _
 have hx0 : W0.heap[w.heap.size]? = some (.cells #[.int .i64 k,.int .i64 i,.string t,.slice pk nk ck,.slice pl nl cl] 25 (0,0)):=by rw [hW0,Below.heap_alloc _ _ _ (by simp;omega)];exact one_of _ _
 have hx1 : W0.heap[w.heap.size + 1]? = some (.cells #[.int .i64 vk,.int .i64 vi,.string vt,.slice vpk vnk vck,.slice vpl vnl vcl] 25 (0,0)):=by rw [hW0,Below.heap_alloc _ _ _ (by simp)];exact two_at _ _
 have hr : W0.heap[w.heap.size + 1 + 1]? = some (.cells #[.int .i64 0,.int .i64 0,.string ⟨#[]⟩,.slice none 0 0,.slice none 0 0] 25 (0,0)):=by
  have h:=heap_alloc_new ((w.alloc (.cells #[.int .i64 k,.int .i64 i,.string t,.slice pk nk ck,.slice pl nl cl] 25)).alloc (.cells #[.int .i64 vk,.int .i64 vi,.string vt,.slice vpk vnk vck,.slice vpl vnl vcl] 25)) (.cells #[.int .i64 0,.int .i64 0,.string ⟨#[]⟩,.slice none 0 0,.slice none 0 0] 25)
  rw [hW0]
  simpa using h
 have hs0 : w.heap.size + 3 = W0.heap.size:=by rw [hW0];simp
 have hjB:=hj.carry (O':=O) (w':=W0) fun b hb => ⟨hb,hbw.block b (hO b hb)⟩
 have hvB:=hv.carry (O':=O) (w':=W0) fun b hb => ⟨hb,hbw.block b (hO b hb)⟩
 have hat:=isJ_at hjB
 have e4:=hat.2.2.2.1
 have e5:=hat.2.2.2.2.1
 have hrk:=hat.2.2.2.2.2.1
 have hlc:=hat.2.2.2.2.2.2.1
 have hjs:=hat.2.2.2.2.2.2.2
 clear hat
 obtain ⟨xs,r1,r2,r3,r4⟩:=row_of_js j.list 0 hjs
 have HP : Hid (PutC W0 (w.heap.size + 1 + 1) key j.keys pk pl nk ck nl cl xs (.int .i64 vk) (.int .i64 vi) (.string vt) (.slice vpk vnk vck) (.slice vpl vnl vcl)):=by
  have hz : ∀ {l : List ByteArray} {p : Option Addr} {c : Nat},RdK O W0 p c l → p = none → l.length = 0:=fun {l p c} h hp => by
   cases l with
   | nil => rfl
   | cons a r => obtain ⟨ad,e,_⟩:=h.2 0 (by simp);rw [hp] at e;cases e
  refine ⟨by omega,e4.symm,by rw [r2,e5],hnk,hnl,fun hp => ⟨by rw [e4];exact hz hrk hp,hkp hp⟩,fun hp => ⟨?_,hlp hp⟩,fun ad e m u hm => ?_,fun ad e m u hm => ?_,r3,oneCells hv⟩
  · rw [e5]
    cases hl : j.list with
    | nil => rfl
    | cons a r =>
     rw [hl] at hjs
     unfold isJs at hjs
     obtain ⟨⟨b,o,cs,e,_⟩,_⟩:=hjs
     rw [hp] at e
     cases e
  · have hm1 : m < j.keys.length := by
      have:=(List.getElem?_eq_some_iff.1 hm).1
      simpa using this
    obtain ⟨ad',e',hOa,hc⟩:=hrk.2 m hm1
    rw [e] at e'
    cases e'
    rw [List.getElem?_map,List.getElem?_eq_getElem hm1] at hm
    cases hm
    refine ⟨by rw [add_block];exact Nat.lt_of_lt_of_le (hO _ hOa) hbw.size,?_⟩
    rw [hc,List.getD_eq_getElem?_getD,List.getElem?_eq_getElem hm1]
    rfl
  · obtain ⟨h1,h2⟩:=r4 ad e m u hm
    refine ⟨by rw [add_block];exact Nat.lt_of_lt_of_le (hO _ h1) hbw.size,?_⟩
    rw [Nat.zero_mul,Nat.zero_add] at h2
    exact h2
 have hQ : Hid (∀ wq,Below (w.heap.size + 1 + 1) W0 wq → wq.cell? ⟨w.heap.size,3,none⟩ = some (.slice pk nk ck) ∧ wq.cell? ⟨w.heap.size,4,none⟩ = some (.slice pl nl cl) ∧ wq.cell? ⟨w.heap.size + 1,0,none⟩ = some (.int .i64 vk) ∧ wq.cell? ⟨w.heap.size + 1,1,none⟩ = some (.int .i64 vi) ∧ wq.cell? ⟨w.heap.size + 1,2,none⟩ = some (.string vt) ∧ wq.cell? ⟨w.heap.size + 1,3,none⟩ = some (.slice vpk vnk vck) ∧ wq.cell? ⟨w.heap.size + 1,4,none⟩ = some (.slice vpl vnl vcl)):=fun wq h => by
  have h0:=(h.block w.heap.size (by omega)).trans hx0
  have h1:=(h.block (w.heap.size + 1) (by omega)).trans hx1
  exact ⟨five_c3 h0,five_c4 h0,five_c0 h1,five_c1 h1,five_c2 h1,five_c3 h1,five_c4 h1⟩
 have HR : Hid (∀ wq,Below W0.heap.size W0 wq → wq.heap[w.heap.size + 1 + 1]? = some (.cells #[.int .i64 0,.int .i64 0,.string ⟨#[]⟩,.slice none 0 0,.slice none 0 0] 25 (0,0))):=fun wq h => (h.block _ (by omega)).trans hr
 have HS : Hid (w.heap.size + 3 = W0.heap.size):=hs0
 have HBW : Hid (Below w.heap.size w W0):=hbw
 have HRW : Hid (isRow O W0 j.list xs):=r1
 have HVB : Hid (isJ O W0 v [.int .i64 vk,.int .i64 vi,.string vt,.slice vpk vnk vck,.slice vpl vnl vcl]):=hvB
 have HO : Hid (∀ b,O b → b < w.heap.size):=hO
 have HE : Hid (nk = j.keys.length ∧ nl = j.list.length):=⟨e4,e5⟩
 clear hj hv hjB hvB hrk hlc hjs r1 r2 r3 r4 e4 e5 hx0 hx1 hr hkp hlp hs0 hbw hO
 go_enter Tryz.func44,Tryz.ntmps44
 go_wp2
 rw [← hW0]
 clear hW0
 have hC0 : Below W0.heap.size W0 W0.drew:=(Below.refl _ _).drew
 refine wp_region_in (by kernel_rfl) (fun w' => Below (w.heap.size + 1 + 1) W0 w') ?_
 change wpIn _ _ _ _ _ _ _ _ (World.drew _)
 refine wpIn_tk (i:=1) (d:=some 8) rfl ?_
 refine wpIn_tp (i:=2) (d:=some 9) rfl (by (intro wq hq;obtain ⟨q3,q4,q5,q6,q7,q8,q9⟩:=hQ.out wq hq;go_simp;first | done | with_reducible rfl)) ?_
 refine wpIn_tk (i:=4) (d:=some 11) rfl ?_
 refine wpIn_tk (i:=8) (d:=some 15) rfl ?_
 refine wpIn_tp (i:=9) (d:=some 16) rfl (by (intro wq hq;obtain ⟨q3,q4,q5,q6,q7,q8,q9⟩:=hQ.out wq hq;go_simp;first | done | with_reducible rfl)) ?_
 refine wpIn_tp (i:=11) (d:=some 18) rfl (by (intro wq hq;obtain ⟨q3,q4,q5,q6,q7,q8,q9⟩:=hQ.out wq hq;go_simp;first | done | with_reducible rfl)) ?_
 refine pst_0_n (r:=w.heap.size + 1 + 1) ?_ HP.out _ hC0
 intro w2 hb2 x7 x10 x12 q13 c13 o13 x14 x17 x19 q20 c20 o20
 unfold putOps
 refine wpIn_tk (i:=14) (d:=some 21) rfl ?_
 have hres:=HR.out w2 hb2
 have i0:=five_c0 hres;have i1:=five_c1 hres;have i2:=five_c2 hres;have i3:=five_c3 hres;have i4:=five_c4 hres
 have z0:=five_fz hres 0;have z1:=five_fz hres 1;have z2:=five_fz hres 2;have z3:=five_fz hres 3;have z4:=five_fz hres 4
 refine wpIn_do (i:=15) (hb2.mono HP.out.rle) (by kernel_rfl) rfl (by rfl) ?_
 intro K hK
 go_simp
 refine hK _ _ ?_
 clear hK K
 have h5:=set5_heap hres (.int .i64 5) (.int .i64 0) (.string ⟨#[]⟩) (.slice q13 (nk + 1) c13) (.slice q20 (nl + 1) c20)
 have HK5 : Keep (One (w.heap.size + 1 + 1)) w2 _:=set5_keep w2 (w.heap.size + 1 + 1) (.int .i64 5) (.int .i64 0) (.string ⟨#[]⟩) (.slice q13 (nk + 1) c13) (.slice q20 (nl + 1) c20)
 obtain ⟨WE,hWE⟩ : ∃ WE,WE = set5 w2 (w.heap.size + 1 + 1) (.int .i64 5) (.int .i64 0) (.string ⟨#[]⟩) (.slice q13 (nk + 1) c13) (.slice q20 (nl + 1) c20):=⟨_,rfl⟩
 rw [← hWE] at h5 HK5
 unfold set5 at hWE
 rw [← hWE]
 have hS:=HS.out
 have hB:=HBW.out.size
 have s2:=hb2.size
 have sE:=HK5.size
 have hbE : Below (w.heap.size + 1 + 1) W0 WE:=(hb2.mono HP.out.rle).trans (HK5.below (by omega) fun q hq => by unfold One;omega)
 refine wpIn_done hbE (by kernel_rfl) ?_ _
 clear i0 i1 i2 i3 i4 z0 z1 z2 z3 z4 hWE
 go_wp2
 refine bodyPost_ret (results_cell rfl _ _ _ rfl (loadJ5 h5)) rfl ?_
 obtain ⟨b1,c1',e1⟩:=own_some o13
 obtain ⟨b2,c2',e2⟩:=own_some o20
 cases e1
 cases e2
 have g13:=own_ge o13 b1 rfl
 have g20:=own_ge o20 b2 rfl
 have o13' : w2.ownsRow W0.heap.size 9 1 (.slice (some ⟨b1,0,none⟩) (nk + 1) c13) (j.keys ++ [key]).length ((j.keys ++ [key]).map Value.string):=by
  rw [List.length_append,List.map_append,← HE.out.1]
  exact o13
 have o20' : w2.ownsRow W0.heap.size 25 5 (.slice (some ⟨b2,0,none⟩) (nl + 1) c20) (j.list ++ [v]).length (xs ++ [.int .i64 vk,.int .i64 vi,.string vt,.slice vpk vnk vck,.slice vpl vnl vcl]):=by
  rw [List.length_append,← HE.out.2]
  exact o20
 have carO : ∀ q,O q → O q ∧ w2.heap[q]? = W0.heap[q]?:=fun q hq => ⟨hq,hb2.block q (by have:=HO.out q hq;omega)⟩
 have hrow : isRow O w2 (j.list ++ [v]) (xs ++ [.int .i64 vk,.int .i64 vi,.string vt,.slice vpk vnk vck,.slice vpl vnl vcl]):=isRow.snoc rfl (HVB.out.carry carO) _ _ (isRow.carry carO _ _ HRW.out)
 obtain ⟨qk,cqk,ek,hk⟩:=own_rdK o13'
 obtain ⟨ql,cql,el,hcl,hl⟩:=own_js o20' hrow
 simp only [Value.slice.injEq] at ek el
 obtain ⟨rfl,hk1,rfl⟩:=ek
 obtain ⟨rfl,hl1,rfl⟩:=el
 have old : ∀ q,q < w2.heap.size → q ≠ w.heap.size + 1 + 1 → WE.heap[q]? = w2.heap[q]?:=fun q h1 h2 => HK5.block q h1 (by unfold One;omega)
 have bE : Below w.heap.size w WE:=HBW.out.trans (hbE.mono (by omega))
 refine ⟨⟨b1,c13,b2,c20,rfl,?_⟩,bE⟩
 unfold isJ
 refine ⟨some ⟨b1,0,none⟩,c13,some ⟨b2,0,none⟩,c20,?_,hk.carry fun q hq => ?_,hcl,hl.carry fun q hq => ?_⟩
 · rw [← hk1,← hl1]
   rfl
 · exact ⟨.inr ⟨by have:=hq.1;omega,by have:=hq.2;omega⟩,old q hq.2 (by have:=hq.1;omega)⟩
 · rcases hq with hq | hq
   · have:=HO.out q hq
     exact ⟨.inl hq,old q (by omega) (by omega)⟩
   · exact ⟨.inr ⟨by have:=hq.1;omega,by have:=hq.2;omega⟩,old q hq.2 (by have:=hq.1;omega)⟩
end Go.Proofs.YtldegjjaknelgaaGreatDoor
namespace Go.Proofs.YtldegjjaknelgaaGreatDoor
open Go.RowKit Go.Maps
theorem rStr_any (s : ByteArray) (w : World) :
    Calls Tryz.prog 65 #[.string s] w fun x w' => x = .returned (.agg #[.int .i64 3,.int .i64 0,.string s,.slice none 0 0,.slice none 0 0]) ∧ Below w.heap.size w w':=by
 have hr : (w.alloc (.cells #[.int .i64 0,.int .i64 0,.string ⟨#[]⟩,.slice none 0 0,.slice none 0 0] 25)).heap[w.heap.size]? = some (.cells #[.int .i64 0,.int .i64 0,.string ⟨#[]⟩,.slice none 0 0,.slice none 0 0] 25 (0,0)):=heap_alloc_new _ _
 have hb : Below w.heap.size w (w.alloc (.cells #[.int .i64 0,.int .i64 0,.string ⟨#[]⟩,.slice none 0 0,.slice none 0 0] 25)):=(Below.refl _ _).alloc (Nat.le_refl _) _
 go_enter Tryz.func65,Tryz.ntmps65
 go_upto_region 1 with fail
 generalize w.alloc (.cells #[.int .i64 0,.int .i64 0,.string ⟨#[]⟩,.slice none 0 0,.slice none 0 0] 25) = WB at *
 have i0:=five_c0 hr;have i1:=five_c1 hr;have i2:=five_c2 hr;have i3:=five_c3 hr;have i4:=five_c4 hr
 have z0:=five_fz hr 0;have z1:=five_fz hr 1;have z2:=five_fz hr 2;have z3:=five_fz hr 3;have z4:=five_fz hr 4
 go_wp2
 have h5:=set5_heap hr (.int .i64 3) (.int .i64 0) (.string s) (.slice none 0 0) (.slice none 0 0)
 have HK5 : Keep (One w.heap.size) WB _:=set5_keep WB w.heap.size (.int .i64 3) (.int .i64 0) (.string s) (.slice none 0 0) (.slice none 0 0)
 obtain ⟨WE,hWE⟩ : ∃ WE,WE = set5 WB w.heap.size (.int .i64 3) (.int .i64 0) (.string s) (.slice none 0 0) (.slice none 0 0):=⟨_,rfl⟩
 rw [← hWE] at h5 HK5
 unfold set5 at hWE
 rw [← hWE]
 refine bodyPost_ret (results_cell rfl _ _ _ rfl (loadJ5 h5)) rfl ?_
 exact ⟨rfl,hb.trans (HK5.below hb.size fun q hq => by unfold One;omega)⟩
end Go.Proofs.YtldegjjaknelgaaGreatDoor
namespace Go.Proofs.YtldegjjaknelgaaGreatDoor
open Go.RowKit
theorem isJ_bareA (O : Nat → Prop) (w : World) (k i : Int) (t : ByteArray) : isJ O w (.mk k i t [] []) [.int .i64 k,.int .i64 i,.string t,.slice none 0 0,.slice none 0 0]:=by
 unfold isJ
 exact ⟨none,0,none,0,rfl,RdK.nil _ _,Nat.le_refl _,by unfold isJs;trivial⟩
theorem infoJ5 : (Tryz.prog.info? 25).map (·.size) = some 5:=by kernel_rfl
theorem loadE_at {w : World} {b o : Nat} {e : Ev} {p : Pt} (h : w.rangeAt b o (cellsE e p)) : (loadVar 28 ⟨b,o,none⟩).run Tryz.prog w = .ok (valE e p) w:=run_loadVar_mid w b o 28 (cellsE e p) _ h Tryz.underlying28 rfl infoE
abbrev oneJ (key s : ByteArray) : J:=.mk 5 0 nix [key] [.mk 3 0 s [] []]
def js1 (b1 c1 b2 c2 : Nat) : List Value:=[.int .i64 5,.int .i64 0,.string nix,.slice (some ⟨b1,0,none⟩) 1 c1,.slice (some ⟨b2,0,none⟩) 1 c2]
theorem one_js1 (b1 c1 b2 c2 : Nat) : (js1 b1 c1 b2 c2).toArray.all (·.oneCell') = true:=all_oneCell_toArray fun v hv => by
 simp only [js1,List.mem_cons,List.not_mem_nil,or_false] at hv
 rcases hv with rfl | rfl | rfl | rfl | rfl <;> rfl
theorem loadJ1_at {w : World} {b o b1 c1 b2 c2 : Nat} (h : w.rangeAt b o (js1 b1 c1 b2 c2)) : (loadVar 25 ⟨b,o,none⟩).run Tryz.prog w = .ok (.agg (js1 b1 c1 b2 c2).toArray) w:=run_loadVar_mid w b o 25 (js1 b1 c1 b2 c2) _ h Tryz.underlying25 rfl infoJ5
theorem text11_any (key s : ByteArray) (w : World) : Calls Tryz.prog 30 #[.string key, .string s] w fun x w' =>
    (∃ pk ck pl cl,x = .returned (.agg #[.int .i64 5,.int .i64 0,.string nix,.slice pk 1 ck,.slice pl 1 cl]) ∧ isJ (· < w'.heap.size) w' (oneJ key s) [.int .i64 5,.int .i64 0,.string nix,.slice pk 1 ck,.slice pl 1 cl]) ∧ Below w.heap.size w w':=by
 obtain ⟨W,hW⟩ : ∃ W,W = w.alloc (.cells #[.int .i64 0,.int .i64 0,.string ⟨#[]⟩,.slice none 0 0,.slice none 0 0] 25):=⟨_,rfl⟩
 have hb0 : Below w.heap.size w W:=by rw [hW];exact (Below.refl _ _).alloc (Nat.le_refl _) _
 have hX0 : W.heap[w.heap.size]? = some (.cells #[.int .i64 0,.int .i64 0,.string ⟨#[]⟩,.slice none 0 0,.slice none 0 0] 25 (0,0)):=by rw [hW];exact newP _
 have hS:=rStr_any s W
 have HP : Hid (∀ X,Below W.heap.size W X → Calls Tryz.prog 44 #[.agg #[.int .i64 5,.int .i64 0,.string ⟨#[]⟩,.slice none 0 0,.slice none 0 0],.string key,.agg #[.int .i64 3,.int .i64 0,.string s,.slice none 0 0,.slice none 0 0]] X fun x w' => (∃ b1 c1 b2 c2,x = .returned (.agg (js1 b1 c1 b2 c2).toArray) ∧ isJ (fun b => b < w.heap.size ∨ New X w' b) w' (oneJ key s) [.int .i64 5,.int .i64 0,.string ⟨#[]⟩,.slice (some ⟨b1,0,none⟩) 1 c1,.slice (some ⟨b2,0,none⟩) 1 c2]) ∧ Below X.heap.size X w'):=fun X hX => by
  refine (rPut_any (O:=(· < w.heap.size)) (w:=X) (j:=.mk 5 0 nix [] []) (v:=.mk 3 0 s [] []) (k:=5) (i:=0) (t:=⟨#[]⟩) (vk:=3) (vi:=0) (vt:=s) (pk:=none) (pl:=none) (vpk:=none) (vpl:=none) (nk:=0) (ck:=0) (nl:=0) (cl:=0) (vnk:=0) (vck:=0) (vnl:=0) (vcl:=0) key (fun b hb => Nat.lt_of_lt_of_le hb (belowP hb0 hX).size) ?_ ?_ (fun _ => rfl) (fun _ => rfl) (by decide) (by decide)).mono fun x w' hh => hh
  · exact isJ_bareA _ _ _ _ _
  · exact isJ_bareA _ _ _ _ _
 go_enter Tryz.func30,Tryz.ntmps30
 go_upto_region 1 with fail
 rw [← hW]
 clear hW
 go_wp2_with (first
  | (go_at_call 65;refine hS.mono ?_;rintro x w1 ⟨rfl,hb1⟩;have hP1:=HP.out w1 hb1)
  | (go_at_call 44; refine hP1.mono ?_; rintro x w2 ⟨⟨b1, c1, b2, c2, rfl, hj⟩, hb2⟩
     have hX2 : w2.heap[w.heap.size]? = some (.cells #[.int .i64 0,.int .i64 0,.string ⟨#[]⟩,.slice none 0 0,.slice none 0 0] 25 (0,0)):=((belowP hb1 hb2).block _ (objP_lt hX0)).trans hX0
     have HX2:=(show Hid _ from hX2)
     clear hX2)
  | (refine wpList_store_row rfl 25 _ _ rfl w.heap.size 25 _ (js1 b1 c1 b2 c2).toArray rfl rfl HX2.out infoJ5 rfl (one_js1 _ _ _ _) ?_))
 have hk:=keep_setRow w2 w.heap.size (js1 b1 c1 b2 c2).toArray
 refine bodyPost_ret (resultsP_cell rfl _ _ _ rfl (loadJ1_at (range_of (setRow_heap _ _ _ _ _ _ HX2.out)))) rfl ?_
 have hbW : Below w.heap.size w w2:=belowP hb0 (belowP hb1 hb2)
 have hlt:=objP_lt hX0
 have s1:=hb1.size
 refine ⟨⟨some ⟨b1,0,none⟩,c1,some ⟨b2,0,none⟩,c2,rfl,hj.carry fun b hb => ?_⟩,hbW.trans (hk.below hbW.size fun k hk e => by unfold OneP at e;omega)⟩
 have h2 : b < w2.heap.size ∧ b ≠ w.heap.size:=by
  rcases hb with hb | hb
  · exact ⟨Nat.lt_of_lt_of_le hb hbW.size,by omega⟩
  · unfold New at hb;exact ⟨by omega,by omega⟩
 exact ⟨Nat.lt_of_lt_of_le h2.1 hk.size,hk.block b h2.1 (by unfold OneP;exact h2.2)⟩
abbrev stE (kind key sender : ByteArray) (c : J) : Ev:=⟨⟨#[33,114,58,115,49]⟩,kind,sender,true,key,c,[],[],0,0,nix,[]⟩
theorem state11_any (kind key sender kk s : ByteArray) (pk : Option Addr) (ck : Nat) (pl : Option Addr) (cl : Nat) (w : World) : Calls Tryz.prog 29 #[.string kind, .string key, .string sender, .agg #[.int .i64 5, .int .i64 0, .string nix, .slice pk 1 ck, .slice pl 1 cl]] w fun x w' =>
    x = .returned (valE (stE kind key sender (oneJ kk s)) ⟨pk,ck,pl,cl,none,0,none,0,none,0⟩) ∧ Below w.heap.size w w':=by
 obtain ⟨W,hW⟩ : ∃ W,W = (w.alloc (.cells #[.int .i64 5,.int .i64 0,.string nix,.slice pk 1 ck,.slice pl 1 cl] 25)).alloc (.cells (cellsE Ev.zero Pt.zero).toArray 28):=⟨_,rfl⟩
 have hb0 : Below w.heap.size w W:=by rw [hW];exact ((Below.refl _ _).alloc (Nat.le_refl _) _).alloc (by simp) _
 have hX0 : W.heap[w.heap.size]? = some (.cells #[.int .i64 5,.int .i64 0,.string nix,.slice pk 1 ck,.slice pl 1 cl] 25 (0,0)):=by rw [hW,Below.heap_alloc _ _ _ (by simp)];exact newP _
 have HX1 : Hid (W.heap[w.heap.size + 1]? = some (.cells (cellsE Ev.zero Pt.zero).toArray 28 (0,0))):=by
  show _ = _
  rw [hW]
  have:=newP (w:=w.alloc (.cells #[.int .i64 5,.int .i64 0,.string nix,.slice pk 1 ck,.slice pl 1 cl] 25)) (.cells (cellsE Ev.zero Pt.zero).toArray 28)
  rw [World.size_alloc] at this
  exact this
 have HR : Hid (W.rangeAt w.heap.size 0 [.int .i64 5,.int .i64 0,.string nix,.slice pk 1 ck,.slice pl 1 cl]):=range_of hX0
 clear hX0
 go_enter Tryz.func29,Tryz.ntmps29
 go_upto_region 1 with fail
 change Code.wp _ _ _ _ ((w.alloc (.cells #[.int .i64 5,.int .i64 0,.string nix,.slice pk 1 ck,.slice pl 1 cl] 25)).alloc (.cells (cellsE Ev.zero Pt.zero).toArray 28))
 rw [← hW]
 clear hW
 go_wp2_with (first
  | (refine wpList_load_mid rfl 25 _ rfl w.heap.size 0 rfl _ _ HR.out Tryz.underlying25 rfl (by kernel_rfl) ?_)
  | (refine wpList_store_row rfl 28 _ _ rfl (w.heap.size + 1) 28 _ (cellsE (stE kind key sender (oneJ kk s)) ⟨pk,ck,pl,cl,none,0,none,0,none,0⟩).toArray rfl rfl HX1.out infoE rfl (one_E _ _) ?_))
 refine bodyPost_ret (resultsP_cell rfl _ _ _ rfl (loadE_at (range_of (setRow_heap _ _ _ _ _ _ HX1.out)))) rfl ?_
 refine ⟨rfl,hb0.trans ((keep_setRow _ (w.heap.size + 1) _).below hb0.size fun k hk e => by unfold OneP at e;omega)⟩
theorem eqT_comm (a b : ByteArray) : (a.toList == b.toList) = (b.toList == a.toList):=by
 rw [Bool.eq_iff_iff,bytes_eq,bytes_eq]
 exact eq_comm
def IdxP (ks : List ByteArray) (s : ByteArray) (m : Int) : Prop:=(m = -1 ∧ ∀ y,y < ks.length → (s.toList == (ks.getD y nix).toList) = false) ∨ ∃ k : Nat,m = (k : Int) ∧ k < ks.length ∧ (s.toList == (ks.getD k nix).toList) = true ∧ ∀ y,y < k → (s.toList == (ks.getD y nix).toList) = false
theorem index_any {O : Nat → Prop} {w : World} {p : Option Addr} {c : Nat} {ks : List ByteArray} (hk : RdK O w p c ks) (hz : ks.length ≤ 100000) (s : ByteArray) :
    Calls Tryz.prog 66 #[.slice p ks.length c,.string s] w fun e w' => (∃ m,e = .returned (.int .i64 m) ∧ IdxP ks s m) ∧ w = w':=by
 obtain ⟨n,hn⟩ : ∃ n,ks.length = n:=⟨_,rfl⟩
 have HN : Hid (ks.length = n):=hn
 have hc:=hk.1
 rw [hn] at hz hc ⊢
 clear hn
 go_enter Tryz.func66,Tryz.ntmps66
 go_wp2
 go_loop [8] (fun i => ∃ k : Nat,i = .int .i64 k ∧ k ≤ n ∧ Hid (∀ y,y < k → (s.toList == (ks.getD y nix).toList) = false)) (fun i => n - (intOf i).toNat)
 case atStart => exact ⟨0,rfl,Nat.zero_le _,fun y hy => absurd hy (by omega)⟩
 case round =>
  obtain ⟨k,rfl,hkn,HX⟩:=hrel
  by_cases hlt : k < n
  · have hki : (k : Int) < (n : Int):=by omega
    obtain ⟨a,rfl,_,hca⟩:=hk.2 k (by rw [HN.out];exact hlt)
    have HS : Hid ((s.toList == (ks.getD k nix).toList) = false → ∀ y,y < k + 1 → (s.toList == (ks.getD y nix).toList) = false):=fun h y hy => (Nat.lt_succ_iff_lt_or_eq.1 hy).elim (HX.out y) fun e => by rw [e];exact h
    have HY : Hid ((s.toList == (ks.getD k nix).toList) = true → IdxP ks s k):=fun h => .inr ⟨k,rfl,by rw [HN.out];exact hlt,h,HX.out⟩
    generalize ks.getD k nix = u at hca HS HY
    cases he : (s.toList == u.toList) with
    | true =>
     have HZ:=(show Hid _ from HY.out he)
     go_wp2
     go_ret
     exact ⟨⟨_,rfl,HZ.out⟩,rfl⟩
    | false =>
     have HZ:=(show Hid _ from HS.out he)
     go_wp2
     go_round
     case rel => exact ⟨k + 1,by go_num,hlt,HZ⟩
     case measure => simp [intOf];omega
  · obtain rfl : k = n:=by omega
    go_wp2
    go_ret
    exact ⟨⟨_,rfl,.inl ⟨rfl,fun y hy => HX.out y (by rw [← HN.out];exact hy)⟩⟩,rfl⟩
theorem look_of_idx {ks : List ByteArray} {l : List J} {s : ByteArray} {m : Int} (h : IdxP ks s m) : (m < 0 ∧ lookV ks l s = none) ∨ ((l.length : Int) ≤ m ∧ lookV ks l s = none) ∨ ∃ k : Nat,m = (k : Int) ∧ k < ks.length ∧ k < l.length ∧ lookV ks l s = some (l.getD k J.zero):=by
 rcases h with ⟨rfl,h⟩ | ⟨k,rfl,hk,he,hb⟩
 · exact .inl ⟨by decide,lookJ_miss fun y h1 _ => by rw [eqT_comm];exact h y h1⟩
 · by_cases hl : k < l.length
   · exact .inr (.inr ⟨k,rfl,hk,hl,lookJ_step hk hl (fun y hy => by rw [eqT_comm];exact hb y hy) (by rw [eqT_comm];exact he)⟩)
   · exact .inr (.inl ⟨by omega,lookJ_miss fun y _ h2 => by rw [eqT_comm];exact hb y (by omega)⟩)
theorem atext_any {O : Nat → Prop} {w : World} {j : J} {k i : Int} {t : ByteArray} {pk pl : Option Addr} {nk ck nl cl : Nat} (hj : isJ O w j [.int .i64 k, .int .i64 i, .string t, .slice pk nk ck, .slice pl nl cl]) (hO : ∀ b, O b → b < w.heap.size) (hz : j.ks.length ≤ 100000) (s : ByteArray) :
    Calls Tryz.prog 31 #[.agg #[.int .i64 k,.int .i64 i,.string t,.slice pk nk ck,.slice pl nl cl],.string s] w fun e w' => e = .returned (.string (textT j s)) ∧ Below w.heap.size w w':=by
 obtain ⟨kx,ix,tx,ks,l⟩:=j
 obtain ⟨rfl,rfl,rfl,rfl,rfl,hk,hcl,hjs⟩:=isJP_parts hj
 clear hj
 obtain ⟨y,hy⟩ : ∃ y,textT (.mk k i t ks l) s = y:=⟨_,rfl⟩
 rw [hy]
 have HO5 : Hid (k = 5 → y = txtT (lookV ks l s)):=fun h => by rw [← hy];show txtT (if k = 5 then lookV ks l s else none) = _;rw [if_pos h]
 have HON : Hid (¬ k = 5 → y = nix):=fun h => by rw [← hy];show txtT (if k = 5 then lookV ks l s else none) = _;rw [if_neg h];rfl
 clear hy
 simp only [J.ks] at hz
 obtain ⟨wA,hwA⟩ : ∃ wA,wA = w.alloc (.cells #[.int .i64 k,.int .i64 i,.string t,.slice pk ks.length ck,.slice pl l.length cl] 25):=⟨_,rfl⟩
 have hbA : Below w.heap.size w wA:=by rw [hwA];exact (Below.refl _ _).alloc (Nat.le_refl _) _
 have hA : wA.heap[w.heap.size]? = some (.cells #[.int .i64 k,.int .i64 i,.string t,.slice pk ks.length ck,.slice pl l.length cl] 25 (0,0)):=by rw [hwA];exact newP _
 have hI:=index_any (hk.carry (O':=O) (w':=wA) fun x hx => ⟨hx,hbA.block x (hO x hx)⟩) hz s
 have HLK : Hid (∀ m,IdxP ks s m → (m < 0 ∧ lookV ks l s = none) ∨ ((l.length : Int) ≤ m ∧ lookV ks l s = none) ∨ ∃ k : Nat,m = (k : Int) ∧ k < ks.length ∧ k < l.length ∧ lookV ks l s = some (l.getD k J.zero)):=fun m h => look_of_idx h
 have HJS : Hid (isJs O w pl 0 l):=hjs
 obtain ⟨nk,hnk⟩ : ∃ n,ks.length = n:=⟨_,rfl⟩
 obtain ⟨nl,hnl⟩ : ∃ n,l.length = n:=⟨_,rfl⟩
 have HNL : Hid (l.length = nl):=hnl
 rw [hnk] at hz hA hI hwA HLK ⊢
 rw [hnl] at hcl hA hwA HLK ⊢
 have i0:=cellP hA 0 _ rfl;have i3:=cellP hA 3 _ rfl;have i4:=cellP hA 4 _ rfl
 clear hnk hnl hA hk hjs
 generalize lookV ks l s = o at HLK HO5
 by_cases k5 : k = 5
 · subst k5
   have HY:=(show Hid _ from HO5.out rfl)
   clear HO5 HON
   go_enter Tryz.func31,Tryz.ntmps31
   go_upto_region 1 with fail
   rw [← hwA]
   clear hwA
   go_upto_region 2 with (go_at_call 66;refine hI.mono ?_;rintro e w1 ⟨⟨m,rfl,hm⟩,rfl⟩)
   rcases HLK.out m hm with ⟨h1,h2⟩ | ⟨h1,h2⟩ | ⟨n,h1,h2,h3,h4⟩
   · subst h2
     clear hI hm HLK
     go_wp2
     go_ret
     exact ⟨by rw [HY.out];rfl,hbA⟩
   · subst h2
     clear hI hm HLK
     have h0 : ¬ m < 0:=by omega
     have hd : decide (m < 0) = false:=decide_eq_false h0
     have hd2 : decide ((nl : Int) ≤ m) = true:=decide_eq_true h1
     go_wp2
     go_ret
     exact ⟨by rw [HY.out];rfl,hbA⟩
   · subst h4 h1
     clear hI hm HLK
     have hni : (n : Int) < (nl : Int):=by omega
     obtain ⟨lb,lo,cs,hpl,hOb,hcells,hyj⟩:=isJs.at l 0 n HJS.out (by rw [HNL.out];exact h3)
     subst hpl
     obtain ⟨kv,iv,tv,pv,nv,cv,qv,mv,dv,rfl⟩:=isJ_shape hyj
     have HV : Hid ((l.getD n J.zero).kd = kv ∧ (l.getD n J.zero).tx = tv):=by
      generalize l.getD n J.zero = y at hyj
      obtain ⟨_,_,_,_,_⟩:=y
      obtain ⟨rfl,rfl,rfl,_⟩:=isJP_parts hyj
      exact ⟨rfl,rfl⟩
     have cc : ∀ m v,[Value.int .i64 kv,.int .i64 iv,.string tv,.slice pv nv cv,.slice qv mv dv][m]? = some v → wA.cell? ⟨lb,lo + n * 5 + m,none⟩ = some v:=fun m v h => by
      have:=hcells m v h
      rw [Nat.zero_add] at this
      exact (World.cell?_of_block (a:=⟨lb,lo + n * 5 + m,none⟩) (hbA.block lb (hO lb hOb))).trans this
     have y0 : wA.cell? ⟨lb,lo + n * 5,none⟩ = some (.int .i64 kv):=cc 0 _ rfl
     have y2:=cc 2 _ rfl
     clear cc hcells hyj
     have hd : decide ((n : Int) < 0) = false:=decide_eq_false (by omega)
     have hd2 : decide (nl ≤ n) = false:=decide_eq_false (by omega)
     by_cases k3 : kv = 3
     · subst k3
       have HT : Hid (txtT (some (l.getD n J.zero)) = tv):=by show _ = _;simp only [txtT,HV.out.1,HV.out.2,if_true]
       go_wp2
       go_ret
       exact ⟨by rw [HY.out,HT.out];rfl,hbA⟩
     · have HT : Hid (txtT (some (l.getD n J.zero)) = ⟨#[]⟩):=by show _ = _;simp only [txtT,HV.out.1,if_neg k3];rfl
       go_wp2
       go_ret
       exact ⟨by rw [HY.out,HT.out];rfl,hbA⟩
 · have HY:=(show Hid _ from HON.out k5)
   clear HO5 HON
   go_enter Tryz.func31,Tryz.ntmps31
   go_upto_region 1 with fail
   rw [← hwA]
   clear hwA
   go_wp2_with (go_at_call 66;refine hI.mono ?_;rintro e w1 ⟨⟨m,rfl,hm⟩,rfl⟩)
   go_ret
   exact ⟨by rw [HY.out];rfl,hbA⟩
def FindP (O : Nat → Prop) (w' : World) : Option Kn → Ending → Prop
 | some k,e => ∃ q,e = .returned (.tuple #[valK k q,.bool true]) ∧ IsE O w' k.2 q
 | none,e => e = .returned (.tuple #[valK zK Pt.zero,.bool false])
theorem find_miss {l : List Kn} {kind key : ByteArray} {k : Nat} (h : findT (l.take k) kind key = none) (hk : k < l.length) (he : isAt kind key (l.getD k zK) = false) : findT (l.take (k + 1)) kind key = none:=by
 unfold findT at h ⊢
 rw [takeP_one (z:=zK) hk,List.find?_append,h,List.find?_cons,he]
 rfl
theorem find_hit {l : List Kn} {kind key : ByteArray} {k : Nat} (h : findT (l.take k) kind key = none) (hk : k < l.length) (he : isAt kind key (l.getD k zK) = true) : findT l kind key = some (l.getD k zK):=by
 unfold findT at h ⊢
 conv => lhs;rw [takeP_all (z:=zK) hk,List.find?_append,h,List.find?_cons,he]
 rfl
theorem find_any {O : Nat → Prop} {w : World} {p : Option Addr} {c : Nat} {l : List Kn} (h : RdE O w p c l) (hO : ∀ b, O b → b < w.heap.size) (hz : l.length ≤ 100000) (kind key : ByteArray) :
    Calls Tryz.prog 81 #[.slice p l.length c,.string kind,.string key] w fun e w' => FindP O w' (findT l kind key) e ∧ Below w.heap.size w w':=by
 obtain ⟨W0,hW0⟩ : ∃ W0,W0 = w.alloc (.cells (cellsK zK Pt.zero).toArray 41):=⟨_,rfl⟩
 have hb0 : Below w.heap.size w W0:=by rw [hW0];exact (Below.refl _ _).alloc (Nat.le_refl _) _
 have HR : Hid (W0.heap[w.heap.size]? = some (.cells (cellsK zK Pt.zero).toArray 41 (0,0))):=by show _ = _;rw [hW0];exact newP _
 have HBE : Hid (∀ cs : Array Value,Below w.heap.size w (W0.setRow w.heap.size cs)):=fun cs => hb0.trans ((keep_setRow W0 w.heap.size cs).below hb0.size fun q hq e => by unfold OneP at e;omega)
 obtain ⟨n,hn⟩ : ∃ n,l.length = n:=⟨_,rfl⟩
 have HN : Hid (l.length = n):=hn
 have hc:=h.1
 rw [hn] at hz hc ⊢
 clear hn
 go_enter Tryz.func81,Tryz.ntmps81
 go_upto_region 1 with fail
 change Code.wp _ _ _ _ (w.alloc (.cells (cellsK zK Pt.zero).toArray 41))
 rw [← hW0]
 clear hW0
 go_wp2
 go_loop [12] (fun i => ∃ k : Nat,i = .int .i64 k ∧ k ≤ n ∧ Hid (findT (l.take k) kind key = none)) (fun i => n - (intOf i).toNat)
 case atStart => exact ⟨0,rfl,Nat.zero_le _,rfl⟩
 case round =>
  obtain ⟨k,rfl,hk,HF⟩:=hrel
  by_cases hlt : k < n
  · have hki : (k : Int) < (n : Int):=by omega
    have hkl : k < l.length:=by rw [HN.out];exact hlt
    obtain ⟨b,o,q,rfl,hOb,hcells,hE⟩:=h.2 k hkl
    have hbl:=hO b hOb
    have HM : Hid (isAt kind key (l.getD k zK) = false → findT (l.take (k + 1)) kind key = none):=find_miss HF.out hkl
    have HH : Hid (isAt kind key (l.getD k zK) = true → findT l kind key = some (l.getD k zK)):=find_hit HF.out hkl
    generalize l.getD k zK = x at hcells hE HM HH
    have cc : ∀ m v,(cellsK x q)[m]? = some v → W0.cell? ⟨b,o + k * 17 + m,none⟩ = some v:=fun m v hv => (hb0.cell (p:=⟨b,o + k * 17 + m,none⟩) hbl).trans (hcells m v hv)
    have HCC : Hid (W0.rangeAt b (o + k * 17) (cellsK x q)):=cc
    have d2 : W0.cell? ⟨b,o + k * 17 + 2,none⟩ = some (.string x.2.typ):=cc 2 _ rfl
    have d4 : W0.cell? ⟨b,o + k * 17 + 4,none⟩ = some (.bool x.2.st):=cc 4 _ rfl
    have d5 : W0.cell? ⟨b,o + k * 17 + 5,none⟩ = some (.string x.2.key):=cc 5 _ rfl
    clear hcells cc
    simp only [isAt] at HM HH
    have HX : Hid (∀ e w',e = Ending.returned (.tuple #[valK x q,.bool true]) → Below w.heap.size w w' → findT l kind key = some x → FindP O w' (findT l kind key) e ∧ Below w.heap.size w w'):=fun e w' he hb hf => ⟨by rw [hf];exact ⟨q,he,hE.carry fun y hy => ⟨hy,hb.block y (hO y hy)⟩⟩,hb⟩
    clear hE
    generalize x.2.st = st at d4 HM HH
    generalize x.2.typ = typ at d2 HM HH
    generalize x.2.key = ke at d5 HM HH
    cases st with
    | false =>
     have HMM:=(show Hid _ from HM.out (by simp))
     go_wp2
     go_round
     case rel => exact ⟨k + 1,by go_num,hlt,HMM⟩
     case measure => simp [intOf];omega
    | true =>
     cases h1 : (typ.toList == kind.toList) with
     | false =>
      have HMM:=(show Hid _ from HM.out (by simp [h1]))
      go_wp2
      go_round
      case rel => exact ⟨k + 1,by go_num,hlt,HMM⟩
      case measure => simp [intOf];omega
     | true =>
      cases h2 : (ke.toList == key.toList) with
      | false =>
       have HMM:=(show Hid _ from HM.out (by simp [h1,h2]))
       go_wp2
       go_round
       case rel => exact ⟨k + 1,by go_num,hlt,HMM⟩
       case measure => simp [intOf];omega
      | true =>
       have HHH:=(show Hid _ from HH.out (by simp [h1,h2]))
       clear HM HH
       go_wp2_with (first
        | (refine wpList_load_mid rfl 41 _ rfl b (o + k * 17) rfl (cellsK x q) _ HCC.out Tryz.underlying41 rfl infoK ?_)
        | (refine wpList_store_row rfl 41 _ _ rfl w.heap.size 41 _ (cellsK x q).toArray rfl rfl HR.out infoK rfl (one_K x q) ?_))
       refine bodyPost_ret (resultsP_cell_tmp rfl _ _ _ rfl (loadK_at (range_of (setRow_heap _ _ _ _ _ _ HR.out)))) rfl ?_
       exact HX.out _ _ rfl (HBE.out _) HHH.out
  · obtain rfl : k = n:=by omega
    have HNO : Hid (findT l kind key = none):=by
     have:=HF.out
     rw [List.take_of_length_le (by rw [HN.out];omega)] at this
     exact this
    go_wp2_with (refine wpList_store_row rfl 41 _ _ rfl w.heap.size 41 _ (cellsK zK Pt.zero).toArray rfl rfl HR.out infoK rfl (one_K zK Pt.zero) ?_)
    refine bodyPost_ret (resultsP_cell_tmp rfl _ _ _ rfl (loadK_at (range_of (setRow_heap _ _ _ _ _ _ HR.out)))) rfl ?_
    refine ⟨?_,HBE.out _⟩
    rw [HNO.out]
    rfl
theorem sz_zero (d : Nat) : szJ d J.zero = true:=by
 cases d with
 | zero => unfold szJ;rfl
 | succ d => unfold szJ;rfl
theorem find_sz {l : List Kn} (hz : SzK l) (kind key : ByteArray) : szJ 13 ((findT l kind key).getD zK).2.content = true:=by
 cases h : findT l kind key with
 | none => exact sz_zero 13
 | some k => exact hz.cont k (List.mem_of_find?_eq_some h)
theorem find_got {O : Nat → Prop} {w : World} {p : Option Addr} {c : Nat} {l : List Kn} (h : RdE O w p c l) (hO : ∀ b, O b → b < w.heap.size) (hz : l.length ≤ 100000) (kind key : ByteArray) :
    Calls Tryz.prog 81 #[.slice p l.length c,.string kind,.string key] w fun e w' => (∃ q,e = .returned (.tuple #[valK ((findT l kind key).getD zK) q,.bool (findT l kind key).isSome]) ∧ IsE O w' ((findT l kind key).getD zK).2 q) ∧ Below w.heap.size w w':=by
 refine (find_any h hO hz kind key).mono fun e w' hh => ?_
 generalize findT l kind key = o at hh
 cases o with
 | none => exact ⟨⟨Pt.zero,hh.1,isE_zero _ _⟩,hh.2⟩
 | some k =>
  obtain ⟨⟨q,he,hi⟩,hb⟩:=hh
  exact ⟨⟨q,he,hi⟩,hb⟩
theorem textOf_any {O : Nat → Prop} {w : World} {p : Option Addr} {c : Nat} {l : List Kn} (h : RdE O w p c l) (hO : ∀ b, O b → b < w.heap.size) (hz : SzK l) (kind key under : ByteArray) :
    Calls Tryz.prog 123 #[.slice p l.length c,.string kind,.string key,.string under] w fun e w' => e = .returned (.string (textOfT l kind key under)) ∧ Below w.heap.size w w':=by
 have hF:=find_got h hO hz.len kind key
 have HSZ : Hid (szJ 13 ((findT l kind key).getD zK).2.content = true):=find_sz hz kind key
 have HT : Hid (textOfT l kind key under = textT ((findT l kind key).getD zK).2.content under):=rfl
 clear h hz
 generalize (findT l kind key).isSome = bo at hF
 generalize (findT l kind key).getD zK = k at hF HSZ HT
 go_enter Tryz.func123,Tryz.ntmps123
 go_upto_region 2 with (first
  | (go_at_call 81;refine hF.mono ?_;rintro e w1 ⟨⟨q,rfl,hq⟩,hb1⟩;unfold valK)
  | (refine wpList_store_row rfl 41 _ _ rfl w1.heap.size 41 _ (cellsK k q).toArray rfl rfl (newP _) infoK rfl (one_K k q) ?_))
 have hbA : Below w1.heap.size w1 ((w1.alloc (.cells (cellsK zK Pt.zero).toArray 41)).setRow w1.heap.size (cellsK k q).toArray) :=
  ((Below.refl _ _).alloc (Nat.le_refl _) _).trans ((keep_setRow _ w1.heap.size _).below (by simp) fun q hq e => by unfold OneP at e;omega)
 have hX : ((w1.alloc (.cells (cellsK zK Pt.zero).toArray 41)).setRow w1.heap.size (cellsK k q).toArray).heap[w1.heap.size]? = some (.cells (cellsK k q).toArray 41 (0,0)):=setRow_heap _ _ _ _ _ _ (newP _)
 change Code.wp _ _ _ _ ((w1.alloc (.cells (cellsK zK Pt.zero).toArray 41)).setRow w1.heap.size (cellsK k q).toArray)
 generalize (w1.alloc (.cells (cellsK zK Pt.zero).toArray 41)).setRow w1.heap.size (cellsK k q).toArray = W1 at hbA hX
 have HR : Hid (W1.rangeAt w1.heap.size 6 [.int .i64 k.2.content.kind,.int .i64 k.2.content.int,.string k.2.content.text,.slice q.pk k.2.content.keys.length q.ck,.slice q.pl k.2.content.list.length q.cl]):=range_sub hX 6 rfl
 have hTx:=atext_any (O:=O) (w:=W1) (j:=k.2.content) (hq.cont.carry fun x hx => ⟨hx,hbA.block x (Nat.lt_of_lt_of_le (hO x hx) hb1.size)⟩) (fun b hb => Nat.lt_of_lt_of_le (hO b hb) (Nat.le_trans hb1.size hbA.size)) (szP_keys HSZ.out) under
 clear hF hX hq
 go_wp2_with (first
  | (refine wpList_load_mid rfl 25 _ rfl w1.heap.size 6 rfl _ _ HR.out Tryz.underlying25 rfl (by kernel_rfl) ?_)
  | (go_at_call 31;refine hTx.mono ?_;rintro e w2 ⟨rfl,hb2⟩))
 go_ret
 exact ⟨by rw [HT.out];rfl,belowP hb1 (belowP hbA hb2)⟩
end Go.Proofs.YtldegjjaknelgaaGreatDoor
