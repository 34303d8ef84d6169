/- PROVED: for any string the statement CalcNorms answers true: the text as a cell's source reads, its error and where, and the tree, are as the document's own answers; a source read so reads the same again; the argument reads as it did. Conditions: the listed variables read as the program's text lays them (tied by the card).  -/
import Derived.Test.YteglaomdgdkibaaGreatDoorJNZ
import Derived.Test.YteglaomdgdkibaaGreatDoorJN02
import Derived.Test.YteglaomdgdkibaaGreatDoorCards
import Derived.Test.YteglaomdgdkibaaGreatDoorTie
import Derived.Deep.DeepWitnessRowRef
import Derived.Test.YteglaomdgdkibaaGreatDoorJQNSP
import Derived.Test.YteglaomdgdkibaaGreatDoorJQNSW
set_option linter.all false
set_option maxHeartbeats 0
set_option maxRecDepth 99999
namespace Go.Proofs.YteglaomdgdkibaaGreatDoor.CaNorms
open Go.ChangeShapes Go.WideShapes Go.ChangeAt Go.RowKit
open Go.ChangeMaps (open_string shut_string)

theorem contract (H:Type) (enc:TypeId×Value->H) (W:World) (base:Nat) (args:Array Value) (ds gs:List (DataW H)) (before:List MemPlace)
 (hval:∀(j:Nat) t v,Tryz.f3.params[j]? =some t->args[j]? =some v->Value.okWide Tryz.prog W .any base t v)
 (hW:DataW.Whole enc Tryz.prog Tryz.f3.params.toList Rows.calcNormsSpec.vars false W args.toList ds gs before) (hL:laidMetH Tryz.prog Rows.calcNormsRow.laid W):
 Calls Tryz.prog 3 args W fun e W'=>∃v,e=.returned v/\Rows.calcNormsSpec.post enc Tryz.prog Tryz.f3 false true false false W args v W':=by
 have hW':=hW;obtain ⟨p,q,hA0,hV,rfl,hfz,hnd⟩:=hW;have hA:DataW.TrodAll enc Tryz.prog W 0 (fun _=>true) true Tryz.f3.params.toList args.toList ds p:=hA0;rw [Tryz.params3] at hA hval;obtain ⟨v0,d0,rfl,rfl,h0⟩:=trodAll_one hA;obtain ⟨rfl,rfl⟩:=trodVars_none hV;obtain ⟨s,rfl,rfl,rfl,ws⟩:=open_string Tryz.underlying9 (hval 0 9 v0 rfl rfl) h0;clear hA0;simp only [List.append_nil] at hW';have hw:=uh rQ s.data.toList W (E9 hL);refine hw.mono fun e W' ⟨he,hg⟩=>?_
 subst he;refine ⟨_,rfl,_,_,_,[],[],[],hW',?_,?_,rfl,hg.frame _,fun h=>by cases h⟩
 ·exact trodAll_mk1 (shut_bool Tryz.underlying4 _)
 ·exact trodAll_mk1 (shut_string Tryz.underlying9 ws)

theorem reads (os:Os) {H:Type} (enc:TypeId×Value->H):∃places,DataW.whole enc Tryz.prog ((iQ os).forCall (fun _ _=>0) ⟨#[],#[.string ⟨#[]⟩],[]⟩).memory Tryz.f3.params.toList Rows.calcNormsSpec.vars false (#[.string ⟨#[]⟩]:Array Value).toList 8=some ([.lit (.string [])],[],places):=
 ⟨[],qnx⟩

theorem lifted (os:Os) (started:os.Started) (H:Type) (enc:TypeId×Value->H) (F:Stop.Interp):
 ReturnsInHanded {} Tryz.checked os 3 .any ((OpenSpec.ofChange Rows.calcNormsSpec).preRow enc Tryz.prog Tryz.f3 Rows.calcNormsRow.domain false Rows.calcNormsRow.laid) (((OpenSpec.ofChange Rows.calcNormsSpec).at F).post enc Tryz.prog Tryz.f3 false true false false):=by
 obtain ⟨places,hx⟩:=reads os enc
 refine returnsInHanded_of_row (C:=Tryz.checked) (s:=OpenSpec.ofChange Rows.calcNormsSpec) own started qnx Tryz.func3
  (witness_row_atRef (enc:=enc) (C:=Tryz.checked) false (iQ os) #[.string ⟨#[]⟩] rfl qnx qnx qnx
    (OpenSpec.preRow_of_cond 8 hx qnx (fun k hk=>by cases hk) qnx (wE os _))) ?_
 intro W base args ds gs before hval hW _ _ _ hL _ _;exact contract H enc W base args ds gs before hval hW hL

theorem said:Rows.CalcNormsSaid:=
 OpenClaim.holds_of_cond 3 Tryz.f3 rfl rfl rfl rfl rfl rfl rfl ⟨rfl,rfl,rfl,rfl,rfl⟩ rfl rfl rfl rfl rfl sa1 Tryz.func3 sa2
  (of_decide_eq_true (by kernel_rfl)) qoU
  (fun os started H enc _ F=>by rw [OpenClaim.pre_eq_preRow];exact lifted os started H enc F)

theorem plain (f:FuncId) (fn:Func) (hf:Tryz.pinned.checked.prog.funcNamed Tryz.f3.name=some f) (hfn:Tryz.pinned.checked.prog.funcs[f]? =some fn):
 true=Tryz.pinned.checked.prog.looks []/\∀(j:Nat) t,fn.params[j]? =some t->Tryz.pinned.checked.prog.wantsStandIn t=false:=by
 obtain rfl:f=3:=Option.some.inj ((show Tryz.prog.funcNamed Tryz.f3.name=some 3 by kernel_rfl).symm.trans hf)|>.symm;obtain rfl:fn=Tryz.f3:=(Option.some.inj (Tryz.func3.symm.trans hfn)).symm;refine ⟨qnx,fun j t ht=>?_⟩;rw [Tryz.params3] at ht;have hm:t∈[9]:=qro;have hall:([9].all fun u=> !Tryz.prog.wantsStandIn u)=true:=qnx;exact (show Tryz.prog.wantsStandIn t=false by simpa using List.all_eq_true.1 hall t hm)

theorem card:Rows.CalcNormsCardSaid:=
 Claim7.holds_tied_plain_at .later [] _ _ _ _ said (fun _ h=>by cases h) qnx (fun _ h=>by cases h) calcNorms_row_tie rfl ⟨rfl,rfl⟩ qnx rfl plain qnx
#print axioms card
end Go.Proofs.YteglaomdgdkibaaGreatDoor.CaNorms
