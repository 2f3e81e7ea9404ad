/-
  AuthRedacted: whatever event and state there are, if they are small and all of them are well shaped, the verdict on the event's redaction by the state's redactions is the verdict on the event by the state; and chapter 11's examples hold.
-/
import Derived.Test.YtldegjjaknelgaaGreatDoorAR26
set_option maxRecDepth 100000
set_option maxHeartbeats 64000000
namespace Go.Proofs.YtldegjjaknelgaaGreatDoor
open Go.ChangeShapes Go.WideShapes Go.ChangeAt Go.RowKit
open Go.ChangeMaps (open_string shut_string)
theorem qj(os:Os)(CQ:os.Started)(H:Type)(enc:TypeId×Value->H):
    ReturnsInHanded {} Tryz.checked os 6 .any (fun w args=>(Rows.authRedactedSpec.pre enc Tryz.prog Tryz.f6 [] false w args/\laidMetH Tryz.prog pF w)/\sizedMet enc Tryz.prog Tryz.f6 (OpenSpec.ofChange Rows.authRedactedSpec) false w args)
     (Rows.authRedactedSpec.post enc Tryz.prog Tryz.f6 false true false false):=by
 refine returnsInHanded_of_change_and (C:=Tryz.checked) (X:=fun w _=>laidMetH Tryz.prog pF w) (fun _ _ _ hh h=>h.of_heap hh) zh4 CQ (by kernel_rfl) Tryz.func6
  (ChangeSpec.witness_shaped (enc:=enc) (C:=Tryz.checked) (os:=os) (X:=fun w _=>laidMetH Tryz.prog pF w) false (World.laidAll Tryz.prog os pF) #[.agg #[.string ⟨#[]⟩,.string ⟨#[]⟩,.string ⟨#[]⟩,.bool false,.string ⟨#[]⟩,.int .i64 0,.int .i64 0,.string ⟨#[]⟩,.slice none 0 0,.slice none 0 0,.slice none 0 0,.slice none 0 0,.int .i64 0,.int .i64 0,.string ⟨#[]⟩,.slice none 0 0],.slice none 0 0] 8 (World.laidAll_os _ _ _) (World.shaped_of_ZipB (by kernel_rfl) (by kernel_rfl)) (by kernel_rfl) (by kernel_rfl) (by kernel_rfl) (Q6 os _)) ?_
 intro W dM args ds gs before Vo hW _ zdJ hL _;have fq:(DataW.weightsEach Tryz.prog (Tryz.f6.params.toList++Rows.authRedactedSpec.plain.varTypes Tryz.prog) (ds++gs)).all (· <=reachBytes)=true:=zdJ;clear zdJ;have JY:∀(j:Nat) t v,Tryz.f6.params[j]?=some t->args[j]?=some v->Value.okWide Tryz.prog W .any dM t v:=Vo;have Rt:=hW;obtain⟨p,q,MG,hV,rfl,_,_⟩:=hW;have hA:DataW.TrodAll enc Tryz.prog W 0 (fun _=>true) true Tryz.f6.params.toList args.toList ds p:=MG;rw[Tryz.params6]at hA JY fq;obtain⟨u0,u1,d0,d1,q0,q1,rfl,rfl,rfl,h0,h1⟩:=trodAll_two hA;obtain⟨rfl,rfl⟩:=trodVars_none hV;clear MG Vo;simp only[List.append_nil]at Rt;have zh7:∀x∈q0,x.block<W.heap.size:=fun x hx=>by simpa using Rt.lt x (List.mem_append_left _ hx)
 have zh8:∀x∈q1,x.block<W.heap.size:=fun x hx=>by simpa using Rt.lt x (List.mem_append_right _ hx)
 obtain⟨e,pt,rfl,hI,hB⟩:=zaV (JY 0 28 u0 rfl rfl) h0 (iX fq (j:=0) rfl rfl);obtain⟨ps,cs,l,rfl,hR,hBK⟩:=zaU (JY 1 29 u1 rfl rfl) h1 (iX fq (j:=1) rfl rfl);have zaW:∀(W':World),Below W.heap.size W W'->DataW.Trod enc Tryz.prog W' 0 (fun b=>decide (b<W.heap.size)) true 28 (dZ e pt) d0 q0:=
  fun W' hn=>Below.trod FV (by kernel_rfl) (of_decide_eq_true (by kernel_rfl)) h0 hn zh7
 have zaX:∀(W':World),Below W.heap.size W W'->DataW.Trod enc Tryz.prog W' 0 (fun b=>decide (b<W.heap.size)) true 29 (.slice ps l.length cs) d1 q1:=
  fun W' hn=>Below.trod FV (by kernel_rfl) (of_decide_eq_true (by kernel_rfl)) h1 hn zh8
 refine(wT hI hR (fun _ h=>h) hB hBK (CP hL)).mono fun x W' ⟨he,CW⟩=> ?_;subst he;exact⟨_,rfl,_,_,_, [],q0++q1, [],Rt,trodAll_mk1 (shut_bool Tryz.underlying4 true),trodAll_mk2 (zaW _ CW) (zaX _ CW),rfl,CW.frame _,fun h=>by cases h⟩
theorem rR:Rows.AuthRedactedSaid:=
 OpenClaim.holds_of_wide 6 Tryz.f6 rfl rfl rfl rfl rfl rfl rfl ⟨rfl,rfl,rfl,rfl,rfl⟩ rfl rfl rfl rfl rfl (by kernel_rfl) Tryz.func6 (by kernel_rfl)
  (of_decide_eq_true (by kernel_rfl)) (by unfold Func.isWrapper;first| (rw[if_pos (by decide+kernel)];kernel_rfl)| (rw[if_neg (by decide+kernel)];exact⟨rfl,rfl⟩))
  (fun os CQ H enc _=>qj os CQ H enc)
theorem authRedacted_card:Rows.AuthRedactedCardSaid:=
 Claim7.holds_tied_plain_at .later [] _ _ _ _
  rR (fun _ h=>by cases h) (by kernel_rfl) (fun _ h=>by cases h) authRedacted_row_tie rfl ⟨rfl,rfl⟩ (by kernel_rfl) rfl
  (fun f fn hf hfn=>by
   obtain rfl:f=6:=Option.some.inj ((show Tryz.prog.funcNamed "agora/agoralaw11.AuthRedacted" =some 6 by kernel_rfl).symm.trans hf) |>.symm;obtain rfl:fn=Tryz.f6:=(Option.some.inj (Tryz.func6.symm.trans hfn)).symm;exact⟨by kernel_rfl,fun j t ht=>by
    rw[Tryz.params6]at ht;have hm:t∈ [28,29]:=by simpa using Array.mem_of_getElem? ht
    have eF:([28,29].all fun u=> !Tryz.prog.wantsStandIn u)=true:=by kernel_rfl
    exact(show Tryz.prog.wantsStandIn t=false by simpa using List.all_eq_true.1 eF t hm)⟩)
  (by kernel_rfl)
end Go.Proofs.YtldegjjaknelgaaGreatDoor
