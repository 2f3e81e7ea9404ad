/-
  AuthJudges: whatever event and state there are, if they are small, the program's verdict is the document's; and chapter 11's examples hold.
-/
import Derived.Test.YtldegjjaknelgaaGreatDoorAJ28
set_option maxRecDepth 100000
set_option maxHeartbeats 64000000
namespace Go.Proofs.YtldegjjaknelgaaGreatDoor
open Go.ChangeShapes Go.WideShapes Go.ChangeAt Go.RowKit
open Go.ChangeMaps (open_string shut_string)
theorem vw(os:Os)(Ee:os.Started)(H:Type)(enc:TypeId×Value->H):
    ReturnsInHanded {} Tryz.checked os 3 .any (fun w args=>(Rows.authJudgesSpec.pre enc Tryz.prog Tryz.f3 [] false w args/\laidMetH Tryz.prog qG w)/\sizedMet enc Tryz.prog Tryz.f3 (OpenSpec.ofChange Rows.authJudgesSpec) false w args)
     (Rows.authJudgesSpec.post enc Tryz.prog Tryz.f3 false true false false):=by
 refine returnsInHanded_of_change_and (C:=Tryz.checked) (X:=fun w _=>laidMetH Tryz.prog qG w) (fun _ _ _ hh h=>h.of_heap hh) zky Ee (by kernel_rfl) Tryz.func3
  (ChangeSpec.witness_shaped (enc:=enc) (C:=Tryz.checked) (os:=os) (X:=fun w _=>laidMetH Tryz.prog qG w) false (World.laidAll Tryz.prog os qG) #[.agg #[.string ⟨#[]⟩,.string ⟨#[]⟩,.string ⟨#[]⟩,.bool false,.string ⟨#[]⟩,.int .i64 0,.int .i64 0,.string ⟨#[]⟩,.slice none 0 0,.slice none 0 0,.slice none 0 0,.slice none 0 0,.int .i64 0,.int .i64 0,.string ⟨#[]⟩,.slice none 0 0],.slice none 0 0] 8 (World.laidAll_os _ _ _) (World.shaped_of_ZipB (by kernel_rfl) (by kernel_rfl)) (by kernel_rfl) (by kernel_rfl) (by kernel_rfl) (TQ os _)) ?_
 intro W fB args ds gs before Yb hW _ zgg hL _;have fK:(DataW.weightsEach Tryz.prog (Tryz.f3.params.toList++Rows.authJudgesSpec.plain.varTypes Tryz.prog) (ds++gs)).all (· <=reachBytes)=true:=zgg;clear zgg;have Mg:∀(j:Nat) t v,Tryz.f3.params[j]?=some t->args[j]?=some v->Value.okWide Tryz.prog W .any fB t v:=Yb;have Uj:=hW;obtain⟨p,q,OG,hV,rfl,_,_⟩:=hW;have hA:DataW.TrodAll enc Tryz.prog W 0 (fun _=>true) true Tryz.f3.params.toList args.toList ds p:=OG;rw[Tryz.params3]at hA Mg fK;obtain⟨u0,u1,d0,d1,q0,q1,rfl,rfl,rfl,h0,h1⟩:=trodAll_two hA;obtain⟨rfl,rfl⟩:=trodVars_none hV;clear OG Yb;simp only[List.append_nil]at Uj;have zkB:∀x∈q0,x.block<W.heap.size:=fun x hx=>by simpa using Uj.lt x (List.mem_append_left _ hx)
 have zkC:∀x∈q1,x.block<W.heap.size:=fun x hx=>by simpa using Uj.lt x (List.mem_append_right _ hx)
 obtain⟨e,pt,rfl,hI,hB⟩:=zdr (Mg 0 28 u0 rfl rfl) h0 (jO fK (j:=0) rfl rfl);obtain⟨ps,cs,l,rfl,hR,hBK⟩:=zdq (Mg 1 29 u1 rfl rfl) h1 (jO fK (j:=1) rfl rfl);have zds:∀(W':World),Below W.heap.size W W'->DataW.Trod enc Tryz.prog W' 0 (fun b=>decide (b<W.heap.size)) true 28 (eF e pt) d0 q0:=
  fun W' hn=>Below.trod G_ (by kernel_rfl) (of_decide_eq_true (by kernel_rfl)) h0 hn zkB
 have zdt:∀(W':World),Below W.heap.size W W'->DataW.Trod enc Tryz.prog W' 0 (fun b=>decide (b<W.heap.size)) true 29 (.slice ps l.length cs) d1 q1:=
  fun W' hn=>Below.trod G_ (by kernel_rfl) (of_decide_eq_true (by kernel_rfl)) h1 hn zkC
 refine(Me hI hR (fun _ h=>h) hB hBK (Ed hL)).mono fun x W' ⟨he,El⟩=> ?_;subst he;exact⟨_,rfl,_,_,_, [],q0++q1, [],Uj,trodAll_mk1 (shut_bool Tryz.underlying4 true),trodAll_mk2 (zds _ El) (zdt _ El),rfl,El.frame _,fun h=>by cases h⟩
theorem wW:Rows.AuthJudgesSaid:=
 OpenClaim.holds_of_wide 3 Tryz.f3 rfl rfl rfl rfl rfl rfl rfl ⟨rfl,rfl,rfl,rfl,rfl⟩ rfl rfl rfl rfl rfl (by kernel_rfl) Tryz.func3 (by kernel_rfl)
  (of_decide_eq_true (by kernel_rfl)) (by unfold Func.isWrapper;first| (rw[if_pos (by decide+kernel)];kernel_rfl)| (rw[if_neg (by decide+kernel)];exact⟨rfl,rfl⟩))
  (fun os Ee H enc _=>vw os Ee H enc)
theorem authJudges_card:Rows.AuthJudgesCardSaid:=
 Claim7.holds_tied_plain_at .later [] _ _ _ _
  wW (fun _ h=>by cases h) (by kernel_rfl) (fun _ h=>by cases h) authJudges_row_tie rfl ⟨rfl,rfl⟩ (by kernel_rfl) rfl
  (fun f fn hf hfn=>by
   obtain rfl:f=3:=Option.some.inj ((show Tryz.prog.funcNamed "agora/agoralaw11.AuthJudges" =some 3 by kernel_rfl).symm.trans hf) |>.symm;obtain rfl:fn=Tryz.f3:=(Option.some.inj (Tryz.func3.symm.trans hfn)).symm;exact⟨by kernel_rfl,fun j t ht=>by
    rw[Tryz.params3]at ht;have hm:t∈ [28,29]:=by simpa using Array.mem_of_getElem? ht
    have fo:([28,29].all fun u=> !Tryz.prog.wantsStandIn u)=true:=by kernel_rfl
    exact(show Tryz.prog.wantsStandIn t=false by simpa using List.all_eq_true.1 fo t hm)⟩)
  (by kernel_rfl)
end Go.Proofs.YtldegjjaknelgaaGreatDoor
