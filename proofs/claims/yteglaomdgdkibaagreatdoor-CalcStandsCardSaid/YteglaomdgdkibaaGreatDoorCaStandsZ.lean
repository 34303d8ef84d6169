/- PROVED: for any sources the statement CalcStands answers true: the sheet stands in order of places, each source once; a literal's value is its number; a formula's what its tree comes to by the values, or that of a cycle; the argument reads as it did. Conditions: the listed variables read as the program's text lays them (tied by the card).  -/
import Derived.Test.YteglaomdgdkibaaGreatDoorJSZ
import Derived.Test.YteglaomdgdkibaaGreatDoorJS03
import Derived.Test.YteglaomdgdkibaaGreatDoorCards
import Derived.Test.YteglaomdgdkibaaGreatDoorTie
import Derived.Deep.DeepWitnessRowRef
import Derived.Test.YteglaomdgdkibaaGreatDoorJQNSP
import Derived.Test.YteglaomdgdkibaaGreatDoorJQNSW
set_option linter.all false
set_option maxHeartbeats 0
set_option maxRecDepth 99999
namespace Go.Proofs.YteglaomdgdkibaaGreatDoor.CaStands
open Go.ChangeShapes Go.WideShapes Go.ChangeAt Go.RowKit

theorem laidOutC:laidOutB Tryz.prog=true:=by kernel_rfl
theorem contract (H:Type) (enc:TypeId×Value->H) (W:World) (base:Nat) (args:Array Value) (ds gs:List (DataW H)) (before:List MemPlace)
 (hval:∀(j:Nat) t v,Tryz.f5.params[j]? =some t->args[j]? =some v->Value.okWide Tryz.prog W .any base t v)
 (hW:DataW.Whole enc Tryz.prog Tryz.f5.params.toList Rows.calcStandsSpec.vars false W args.toList ds gs before) (hL:laidMetH Tryz.prog Rows.calcStandsRow.laid W):
 Calls Tryz.prog 5 args W fun e W'=>∃v,e=.returned v/\Rows.calcStandsSpec.post enc Tryz.prog Tryz.f5 false true false false W args v W':=by
 have hW':=hW;obtain ⟨p,q,hA0,hV,rfl,hfz,hnd⟩:=hW;have hA:DataW.TrodAll enc Tryz.prog W 0 (fun _=>true) true Tryz.f5.params.toList args.toList ds p:=hA0;rw [Tryz.params5] at hA hval;obtain ⟨v0,d0,rfl,rfl,h0⟩:=trodAll_one hA;obtain ⟨rfl,rfl⟩:=trodVars_none hV;have h0k:=h0;obtain ⟨l,A,ca,rfl,hl,row⟩:=Dl (hval 0 38 v0 rfl rfl) h0;clear hA0;simp only [List.append_nil] at hW';have hlt:∀x∈p,x.block<W.heap.size:=fun x hx=>by simpa using hW'.lt x hx
 refine (sP rQ l A ca W row hl (E9 hL)).mono fun e W' ⟨he,hg⟩=>?_
 subst he;refine ⟨_,rfl,_,_,_,[],p,[],hW',?_,?_,rfl,hg.frame _,fun h=>by cases h⟩
 ·exact trodAll_mk1 (shut_bool Tryz.underlying4 _)
 ·exact trodAll_mk1 (Below.trod laidOutC qnx (of_decide_eq_true qnx) h0k hg fun x hx=>hlt x hx)

theorem reads (os:Os) {H:Type} (enc:TypeId×Value->H):∃places,DataW.whole enc Tryz.prog ((iQ os).forCall (fun _ _=>0) ⟨#[],#[.slice none 0 0],[]⟩).memory Tryz.f5.params.toList Rows.calcStandsSpec.vars false (#[.slice none 0 0]:Array Value).toList 8=some ([.nil],[],places):=
 ⟨[],qnx⟩

theorem lifted (os:Os) (started:os.Started) (H:Type) (enc:TypeId×Value->H) (F:Stop.Interp):
 ReturnsInHanded {} Tryz.checked os 5 .any ((OpenSpec.ofChange Rows.calcStandsSpec).preRow enc Tryz.prog Tryz.f5 Rows.calcStandsRow.domain false Rows.calcStandsRow.laid) (((OpenSpec.ofChange Rows.calcStandsSpec).at F).post enc Tryz.prog Tryz.f5 false true false false):=by
 obtain ⟨places,hx⟩:=reads os enc
 refine returnsInHanded_of_row (C:=Tryz.checked) (s:=OpenSpec.ofChange Rows.calcStandsSpec) own started qnx Tryz.func5
  (witness_row_atRef (enc:=enc) (C:=Tryz.checked) false (iQ os) #[.slice none 0 0] rfl qnx qnx qnx
    (OpenSpec.preRow_of_cond 8 hx qnx (fun k hk=>by cases hk) qnx (wE os _))) ?_
 intro W base args ds gs before hval hW _ _ _ hL _ _;exact contract H enc W base args ds gs before hval hW hL

theorem said:Rows.CalcStandsSaid:=
 OpenClaim.holds_of_cond 5 Tryz.f5 rfl rfl rfl rfl rfl rfl rfl ⟨rfl,rfl,rfl,rfl,rfl⟩ rfl rfl rfl rfl rfl sa1 Tryz.func5 sa2
  (of_decide_eq_true (by kernel_rfl)) qoU
  (fun os started H enc _ F=>by rw [OpenClaim.pre_eq_preRow];exact lifted os started H enc F)

theorem plain (f:FuncId) (fn:Func) (hf:Tryz.pinned.checked.prog.funcNamed Tryz.f5.name=some f) (hfn:Tryz.pinned.checked.prog.funcs[f]? =some fn):
 true=Tryz.pinned.checked.prog.looks []/\∀(j:Nat) t,fn.params[j]? =some t->Tryz.pinned.checked.prog.wantsStandIn t=false:=by
 obtain rfl:f=5:=Option.some.inj ((show Tryz.prog.funcNamed Tryz.f5.name=some 5 by kernel_rfl).symm.trans hf)|>.symm;obtain rfl:fn=Tryz.f5:=(Option.some.inj (Tryz.func5.symm.trans hfn)).symm;refine ⟨qnx,fun j t ht=>?_⟩;rw [Tryz.params5] at ht;have hm:t∈[38]:=qro;have hall:([38].all fun u=> !Tryz.prog.wantsStandIn u)=true:=qnx;exact (show Tryz.prog.wantsStandIn t=false by simpa using List.all_eq_true.1 hall t hm)

theorem card:Rows.CalcStandsCardSaid:=
 Claim7.holds_tied_plain_at .later [] _ _ _ _ said (fun _ h=>by cases h) qnx (fun _ h=>by cases h) calcStands_row_tie rfl ⟨rfl,rfl⟩ qnx rfl plain qnx
#print axioms card
end Go.Proofs.YteglaomdgdkibaaGreatDoor.CaStands
