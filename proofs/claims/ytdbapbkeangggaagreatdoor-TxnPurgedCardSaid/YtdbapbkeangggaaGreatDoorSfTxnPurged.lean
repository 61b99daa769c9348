/- TxnPurged: the given card: for every input the law returns true, and each argument reads as it read before; strconv's tables are tied to the program's text. No condition beside. -/
import Derived.Test.YtdbapbkeangggaaGreatDoorRows
import Derived.Test.YtdbapbkeangggaaGreatDoorCards
import Derived.Test.YtdbapbkeangggaaGreatDoorTie
import Derived.Test.YtdbapbkeangggaaGreatDoorSfC
import Derived.WalkKit
import Derived.ProofKit
import Derived.LaidMore
import Derived.OpenShut
import Derived.ChangeOld
import Derived.Below
import Derived.Stop.Joined
import Derived.SevenTiedAt
import Derived.Lib.SmallJoins
namespace Go.Proofs.YtdbapbkeangggaaGreatDoor
namespace TxnPurged
open Go.ChangeShapes Go.WideShapes Go.ChangeAt Go.RowKit Go.Joins Go.WideMaps Go.WideElems
set_option linter.unusedVariables false
theorem own:ownKnob Tryz.prog.godebug=none:=by kernel_rfl
theorem laidOut:laidOutB Tryz.prog=true:=Jn.laidOut
theorem door_met (os:Os)(args:Array Value):laidMetH Tryz.prog [("math/bits.deBruijn32tab", Rows.laid_math_bits_deBruijn32tab),("math/bits.deBruijn64tab", Rows.laid_math_bits_deBruijn64tab),("internal/strconv.uint64pow10", Rows.laid_internal_strconv_uint64pow10)] ((World.doorLaid Tryz.prog 400 os).forCall (λ_ _=>0) ⟨#[],args,[]⟩).memory :=
  laidMetH_of_parts3 (fuel:=8) (laidMet_of_run' 8 (by kernel_rfl) (by kernel_rfl)) (by kernel_rfl) (by kernel_rfl)
set_option maxRecDepth 100000 in
theorem lifted (os:Os)(started:os.Started)(H:Type)(enc:TypeId×Value->H) :
    ReturnsInHanded {} Tryz.checked os 5 .any (λw args=>(Rows.txnPurgedSpec.pre enc Tryz.prog Tryz.f5 [] false w args/\laidMetH Tryz.prog [("math/bits.deBruijn32tab", Rows.laid_math_bits_deBruijn32tab),("math/bits.deBruijn64tab", Rows.laid_math_bits_deBruijn64tab),("internal/strconv.uint64pow10", Rows.laid_internal_strconv_uint64pow10)] w)/\sizedMet enc Tryz.prog Tryz.f5 (OpenSpec.ofChange Rows.txnPurgedSpec) false w args)
      (Rows.txnPurgedSpec.post enc Tryz.prog Tryz.f5 false true false false):=by
  refine returnsInHanded_of_change_and (C:=Tryz.checked) (X:=λw _=>laidMetH Tryz.prog [("math/bits.deBruijn32tab", Rows.laid_math_bits_deBruijn32tab),("math/bits.deBruijn64tab", Rows.laid_math_bits_deBruijn64tab),("internal/strconv.uint64pow10", Rows.laid_internal_strconv_uint64pow10)] w) (λ_ _ _ hh h=>h.of_heap hh) own started (by kernel_rfl) Tryz.func5
    (ChangeSpec.witness_shaped (enc:=enc) (C:=Tryz.checked) (os:=os) (X:=λw _=>laidMetH Tryz.prog [("math/bits.deBruijn32tab", Rows.laid_math_bits_deBruijn32tab),("math/bits.deBruijn64tab", Rows.laid_math_bits_deBruijn64tab),("internal/strconv.uint64pow10", Rows.laid_internal_strconv_uint64pow10)] w) false (World.doorLaid Tryz.prog 400 os) #[.slice none 0 0,.slice none 0 0] 8 rfl (World.shaped_of_RefB (by kernel_rfl) (by kernel_rfl)) (by kernel_rfl) (by kernel_rfl) (by kernel_rfl) (door_met os _)) ?_
  intro W base args ds gs before hval0 hW _ _ hL _
  have hval:∀(j:Nat) t v,Tryz.f5.params[j]?=some t->args[j]?=some v->Value.okWide Tryz.prog W .any base t v:=hval0
  have hW':=hW
  obtain⟨p,q,hA0,hV,rfl,hfz,hnd⟩:=hW
  have hA:DataW.TrodAll enc Tryz.prog W 0 (λ_=>true) true Tryz.f5.params.toList args.toList ds p:=hA0
  rw[Tryz.params5] at hA hval
  obtain⟨v0,vs0,d0,ds0,p0,q0,hargs,rfl,rfl,h0,r0⟩:=trodAll_cons hA
  obtain⟨v1,vs1,d1,ds1,p1,q1,rfl,rfl,rfl,h1,r1⟩:=trodAll_cons r0
  obtain⟨rfl,rfl,rfl⟩:=trodAll_nil r1
  obtain rfl:args=#[v0,v1]:=by cases args;simp_all
  obtain⟨rfl,rfl⟩:=trodVars_none hV
  have k0:=h0
  have lt0:∀x∈p0,x.block<W.heap.size:=by obtain⟨m,hm⟩:=k0;exact DataW.trod_lt m _ _ _ hm
  have k1:=h1
  have lt1:∀x∈p1,x.block<W.heap.size:=by obtain⟨m,hm⟩:=k1;exact DataW.trod_lt m _ _ _ hm
  obtain⟨a0,n0,c0,rfl⟩:=okWide_slice Tryz.underlying22 (hval 0 22 v0 rfl rfl)
  obtain⟨f0,hf0⟩:=h0
  obtain⟨ls0,e0,s0,b0,m0⟩:=Rec.open_rec Tryz.underlying22 (by kernel_rfl) Tx.elem_cl hf0
  obtain⟨a1,n1,c1,rfl⟩:=okWide_slice Tryz.underlying44 (hval 1 44 v1 rfl rfl)
  obtain⟨f1,hf1⟩:=h1
  obtain⟨ls1,e1,g1,-,s1⟩:=Dk.open_bytes hf1
  clear hA0 hval0
  refine(walk W a0 n0 c0 ls0 e0 s0 b0 m0 a1 n1 c1 ls1 s1 e1 g1).mono λe W' ⟨he,bel⟩=>?_
  subst he
  exact⟨_,rfl,_,_,_,[],_,[],hW',trodAll_mk1 (shut_bool Tryz.underlying4 _),(trodAll_cons_mk (Below.trod laidOut (by kernel_rfl) (of_decide_eq_true (by kernel_rfl)) k0 bel lt0) (trodAll_cons_mk (Below.trod laidOut (by kernel_rfl) (of_decide_eq_true (by kernel_rfl)) k1 bel lt1) trodAll_mk0)),rfl,bel.frame _,λh=>by cases h⟩
set_option maxRecDepth 100000 in
theorem j1:Rows.txnPurgedRow.wf (OpenSpec.ofChange Rows.txnPurgedSpec)=true:=by kernel_rfl
set_option maxRecDepth 100000 in
theorem j4:(Tryz.f5.params.all (Tryz.prog.readableRec ·)&&namedTie Tryz.prog Rows.txnPurgedRow.named Rows.txnPurgedSpec.vars)=true:=by kernel_rfl
set_option maxRecDepth 100000 in
theorem j9:(Rows.txnPurgedRow.inPlace == Tryz.prog.inPlace 5)=true:=by kernel_rfl
set_option maxRecDepth 100000 in
theorem j10:(Rows.txnPurgedRow.unfollowed == Tryz.prog.unfollowed 5)=true:=by kernel_rfl
set_option maxRecDepth 100000 in
theorem j11:(Rows.txnPurgedRow.recurses == Tryz.prog.recurses 5)=true:=by kernel_rfl
set_option maxRecDepth 100000 in
theorem j12:(Rows.txnPurgedRow.named == Tryz.prog.varsNamed 5)=true:=by kernel_rfl
set_option maxRecDepth 100000 in
theorem joined:joinedFacts Tryz.prog 5 Tryz.f5 Rows.txnPurgedSpec Rows.txnPurgedRow=true :=
  Jn.joined_of j1 Jn.laidOut Jn.mapsRow j4 rfl Jn.stops rfl Jn.knobs j9 j10 j11 j12 (by kernel_rfl) (by kernel_rfl) (by kernel_rfl) Jn.plain rfl Jn.heard Jn.enter Jn.lifts Jn.make (by kernel_rfl) rfl (by kernel_rfl)
theorem h1:Tryz.prog.funcNamed "selion/selionlaw12.TxnPurged" = some 5:=by kernel_rfl
theorem h2:(Tryz.f5).isInstance Tryz.prog Rows.txnPurgedRow.origin Rows.txnPurgedRow.targs:=of_decide_eq_true (by kernel_rfl)
theorem over:Rows.TxnPurgedSaid :=
  OpenClaim.holds_of_wide 5 Tryz.f5 rfl rfl rfl rfl rfl rfl rfl ⟨rfl,rfl,rfl,rfl,rfl⟩ rfl rfl rfl rfl rfl h1 Tryz.func5 joined
    h2 (by unfold Func.isWrapper;rw[if_neg (of_decide_eq_false (by kernel_rfl))];exact⟨rfl,rfl⟩)
    (λos started H enc _=>lifted os started H enc)
set_option maxRecDepth 100000 in
theorem t1:Rows.txnPurgedRow.wfByText (OpenSpec.ofChange Rows.txnPurgedSpec)=true:=by kernel_rfl
set_option maxRecDepth 100000 in
theorem t2:Tryz.prog.mainIs=some (true, "d4b42d0f7d676cb391ee3c079829a2a54aa652639b47f7bb35c712fa28f98fd7".toList):=by kernel_rfl
set_option maxRecDepth 100000 in
theorem t3:true=Tryz.prog.looks []:=by kernel_rfl
set_option maxRecDepth 100000 in
theorem t4:false=Rows.txnPurgedRow.goesBy Tryz.prog:=by kernel_rfl
theorem proved:Rows.TxnPurgedCardSaid :=
  Claim7.holds_tied_plain_at .later [] [.data,.data,.data] true (true, "d4b42d0f7d676cb391ee3c079829a2a54aa652639b47f7bb35c712fa28f98fd7") true
    over (λ_ h=>by cases h) t1 (λ_ h=>by cases h) txnPurged_row_tie rfl ⟨rfl,rfl⟩ t2 rfl
    (λf fn hf hfn=>by
      obtain rfl:f=5:=Option.some.inj (h1.symm.trans hf) |>.symm
      obtain rfl:fn=Tryz.f5:=(Option.some.inj (Tryz.func5.symm.trans hfn)).symm
      exact⟨t3,λj t ht=>by
        rw[Tryz.params5] at ht
        have hm:t∈[22,44]:=by simpa using Array.mem_of_getElem? ht
        have hall:([22,44].all λu=>!Tryz.prog.wantsStandIn u)=true:=by kernel_rfl
        exact(show Tryz.prog.wantsStandIn t=false by simpa using List.all_eq_true.1 hall t hm)⟩)
    t4
#print axioms proved
end TxnPurged
end Go.Proofs.YtdbapbkeangggaaGreatDoor
