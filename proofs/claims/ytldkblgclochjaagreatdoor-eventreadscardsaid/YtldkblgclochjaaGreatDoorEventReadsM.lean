/-
  EventReads: whatever value there is, if it is small, FromJson reads of it the event, or tells the error, that the document says; and chapter 5's examples hold.
-/
import Derived.Test.YtldkblgclochjaaGreatDoorE28
set_option maxRecDepth 100000
set_option maxHeartbeats 16000000
namespace Go.Proofs.YtldkblgclochjaaGreatDoor
open Go.ChangeShapes Go.WideShapes Go.ChangeAt Go.RowKit
theorem yI(os:Os)(G:os.Started)(H:Type)(enc:TypeId×Value->H):
    ReturnsInHanded {} Tryz.checked os 3 .any (fun w args=>(Rows.eventReadsSpec.pre enc Tryz.prog Tryz.f3 [] false w args/\laidMetH Tryz.prog ve w)/\sizedMet enc Tryz.prog Tryz.f3 (OpenSpec.ofChange Rows.eventReadsSpec) false w args)
     (Rows.eventReadsSpec.post enc Tryz.prog Tryz.f3 false true false false):=by
 refine returnsInHanded_of_change_and (C:=Tryz.checked) (X:=fun w _=>laidMetH Tryz.prog ve w) (fun _ _ _ V h=>h.of_heap V) zg9 G (by kernel_rfl) Tryz.func3
  (ChangeSpec.witness_shaped (enc:=enc) (C:=Tryz.checked) (os:=os) (X:=fun w _=>laidMetH Tryz.prog ve w) false (World.laidAll Tryz.prog os ve) #[.agg #[.int .i64 0,.int .i64 0,.string ⟨#[]⟩,.slice none 0 0,.slice none 0 0]] 8 (World.laidAll_os _ _ _) (World.shaped_of_ZipB (by kernel_rfl) (by kernel_rfl)) (by kernel_rfl) (by kernel_rfl) (by kernel_rfl) (YC os _)) ?_
 intro W base args E gs before u F _ f S _;have K:(DataW.weightsEach Tryz.prog (Tryz.f3.params.toList++Rows.eventReadsSpec.plain.varTypes Tryz.prog) (E++gs)).all (· <=reachBytes)=true:=f;clear f;have m:∀(j:Nat) t v,Tryz.f3.params[j]?=some t->args[j]?=some v->Value.okWide Tryz.prog W .any base t v:=u;have c:=F;obtain⟨p,q,d,N,rfl,_,_⟩:=F;have A:DataW.TrodAll enc Tryz.prog W 0 (fun _=>true) true Tryz.f3.params.toList args.toList E p:=d;rw[Tryz.params3]at A m K;obtain⟨v0,I,rfl,rfl,h0⟩:=trodAll_one A;obtain⟨rfl,rfl⟩:=trodVars_none N;clear d u;simp only[List.append_nil]at c;have U:∀x∈p,x.block<W.heap.size:=fun x Y=>by simpa using c.lt x Y
 obtain⟨j,k,i,t,pk,nk,ck,pl,nl,cl,rfl,Z⟩:=zfD (m 0 25 v0 rfl rfl) h0;have z:∀(W':World),Below W.heap.size W W'->DataW.Trod enc Tryz.prog W' 0 (fun b=>decide (b<W.heap.size)) true 25 (.agg #[.int .i64 k,.int .i64 i,.string t,.slice pk nk ck,.slice pl nl cl]) I p:=
  fun W' T=>Below.trod YE (by kernel_rfl) (of_decide_eq_true (by kernel_rfl)) h0 T U
 refine(PS Z (IA S)).mono fun x W' ⟨he,Js⟩=> ?_;subst he;exact⟨_,rfl,_,_,_, [],p, [],c,trodAll_mk1 (shut_bool Tryz.underlying4 true),trodAll_mk1 (z _ Js),rfl,Js.frame _,fun h=>by cases h⟩
theorem zP:Rows.EventReadsSaid:=
 OpenClaim.holds_of_wide 3 Tryz.f3 rfl rfl rfl rfl rfl rfl rfl ⟨rfl,rfl,rfl,rfl,rfl⟩ rfl rfl rfl rfl rfl (by kernel_rfl) Tryz.func3 (by kernel_rfl)
  (of_decide_eq_true (by kernel_rfl)) (by unfold Func.isWrapper;first| (rw[if_pos (by decide+kernel)];kernel_rfl)| (rw[if_neg (by decide+kernel)];exact⟨rfl,rfl⟩))
  (fun os c H enc _=>yI os c H enc)
theorem eventReads_card:Rows.EventReadsCardSaid:=
 Claim7.holds_tied_plain_at .later [] _ _ _ _
  zP (fun _ h=>by cases h) (by kernel_rfl) (fun _ h=>by cases h) eventReads_row_tie rfl ⟨rfl,rfl⟩ (by kernel_rfl) rfl
  (fun f fn k c=>by
   obtain rfl:f=3:=Option.some.inj ((show Tryz.prog.funcNamed "agora/agoralaw05.EventReads" =some 3 by kernel_rfl).symm.trans k) |>.symm;obtain rfl:fn=Tryz.f3:=(Option.some.inj (Tryz.func3.symm.trans c)).symm;exact⟨by kernel_rfl,fun j t d=>by
    rw[Tryz.params3]at d;have x:t∈ [25]:=by simpa using Array.mem_of_getElem? d
    have m:([25].all fun u=> !Tryz.prog.wantsStandIn u)=true:=by kernel_rfl
    exact(show Tryz.prog.wantsStandIn t=false by simpa using List.all_eq_true.1 m t x)⟩)
  (by kernel_rfl)
end Go.Proofs.YtldkblgclochjaaGreatDoor
