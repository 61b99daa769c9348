/- TxnErrors: the given card: for every input the law returns true, and each argument reads as it read before; strconv's tables are tied to the program's text. No condition beside. -/
import Derived.Test.YtdbapbkeangggaaGreatDoorRows
import Derived.Test.YtdbapbkeangggaaGreatDoorCards
import Derived.Test.YtdbapbkeangggaaGreatDoorTie
import Derived.Test.YtdbapbkeangggaaGreatDoorSdB
import Derived.WalkKit
import Derived.ProofKit
import Derived.LaidMore
import Derived.OpenShut
import Derived.ChangeOld
import Derived.Below
import Derived.Stop.Joined
import Derived.SevenTiedAt
import Derived.Lib.SmallJoins
namespace Go.Proofs.YtdbapbkeangggaaGreatDoor
namespace TxnErrors
open Go.ChangeShapes Go.WideShapes Go.ChangeAt Go.RowKit Go.Joins Go.WideMaps Go.WideElems
set_option linter.unusedVariables false
theorem own:ownKnob Tryz.prog.godebug=none:=by kernel_rfl
theorem laidOut:laidOutB Tryz.prog=true:=Jn.laidOut
theorem door_met (os:Os)(args:Array Value):laidMetH Tryz.prog [("math/bits.deBruijn32tab", Rows.laid_math_bits_deBruijn32tab),("math/bits.deBruijn64tab", Rows.laid_math_bits_deBruijn64tab),("internal/strconv.uint64pow10", Rows.laid_internal_strconv_uint64pow10)] ((World.doorLaid Tryz.prog 400 os).forCall (λ_ _=>0) ⟨#[],args,[]⟩).memory :=
  laidMetH_of_parts3 (fuel:=8) (laidMet_of_run' 8 (by kernel_rfl) (by kernel_rfl)) (by kernel_rfl) (by kernel_rfl)
set_option maxRecDepth 100000 in
theorem lifted (os:Os)(started:os.Started)(H:Type)(enc:TypeId×Value->H) :
    ReturnsInHanded {} Tryz.checked os 6 .any (λw args=>(Rows.txnErrorsSpec.pre enc Tryz.prog Tryz.f6 [] false w args/\laidMetH Tryz.prog [("math/bits.deBruijn32tab", Rows.laid_math_bits_deBruijn32tab),("math/bits.deBruijn64tab", Rows.laid_math_bits_deBruijn64tab),("internal/strconv.uint64pow10", Rows.laid_internal_strconv_uint64pow10)] w)/\sizedMet enc Tryz.prog Tryz.f6 (OpenSpec.ofChange Rows.txnErrorsSpec) false w args)
      (Rows.txnErrorsSpec.post enc Tryz.prog Tryz.f6 false true false false):=by
  refine returnsInHanded_of_change_and (C:=Tryz.checked) (X:=λw _=>laidMetH Tryz.prog [("math/bits.deBruijn32tab", Rows.laid_math_bits_deBruijn32tab),("math/bits.deBruijn64tab", Rows.laid_math_bits_deBruijn64tab),("internal/strconv.uint64pow10", Rows.laid_internal_strconv_uint64pow10)] w) (λ_ _ _ hh h=>h.of_heap hh) own started (by kernel_rfl) Tryz.func6
    (ChangeSpec.witness_shaped (enc:=enc) (C:=Tryz.checked) (os:=os) (X:=λw _=>laidMetH Tryz.prog [("math/bits.deBruijn32tab", Rows.laid_math_bits_deBruijn32tab),("math/bits.deBruijn64tab", Rows.laid_math_bits_deBruijn64tab),("internal/strconv.uint64pow10", Rows.laid_internal_strconv_uint64pow10)] w) false (World.doorLaid Tryz.prog 400 os) #[.slice none 0 0,.int .u8 0,.string ⟨#[]⟩,.string ⟨#[]⟩,.int .i64 0,.string ⟨#[]⟩] 8 rfl (World.shaped_of_RefB (by kernel_rfl) (by kernel_rfl)) (by kernel_rfl) (by kernel_rfl) (by kernel_rfl) (door_met os _)) ?_
  intro W base args ds gs before hval0 hW _ _ hL _
  have hval:∀(j:Nat) t v,Tryz.f6.params[j]?=some t->args[j]?=some v->Value.okWide Tryz.prog W .any base t v:=hval0
  have hW':=hW
  obtain⟨p,q,hA0,hV,rfl,hfz,hnd⟩:=hW
  have hA:DataW.TrodAll enc Tryz.prog W 0 (λ_=>true) true Tryz.f6.params.toList args.toList ds p:=hA0
  rw[Tryz.params6] at hA hval
  obtain⟨v0,vs0,d0,ds0,p0,q0,hargs,rfl,rfl,h0,r0⟩:=trodAll_cons hA
  obtain⟨v1,vs1,d1,ds1,p1,q1,rfl,rfl,rfl,h1,r1⟩:=trodAll_cons r0
  obtain⟨v2,vs2,d2,ds2,p2,q2,rfl,rfl,rfl,h2,r2⟩:=trodAll_cons r1
  obtain⟨v3,vs3,d3,ds3,p3,q3,rfl,rfl,rfl,h3,r3⟩:=trodAll_cons r2
  obtain⟨v4,vs4,d4,ds4,p4,q4,rfl,rfl,rfl,h4,r4⟩:=trodAll_cons r3
  obtain⟨v5,vs5,d5,ds5,p5,q5,rfl,rfl,rfl,h5,r5⟩:=trodAll_cons r4
  obtain⟨rfl,rfl,rfl⟩:=trodAll_nil r5
  obtain rfl:args=#[v0,v1,v2,v3,v4,v5]:=by cases args;simp_all
  obtain⟨rfl,rfl⟩:=trodVars_none hV
  have k0:=h0
  have lt0:∀x∈p0,x.block<W.heap.size:=by obtain⟨m,hm⟩:=k0;exact DataW.trod_lt m _ _ _ hm
  have k1:=h1
  have lt1:∀x∈p1,x.block<W.heap.size:=by obtain⟨m,hm⟩:=k1;exact DataW.trod_lt m _ _ _ hm
  have k2:=h2
  have lt2:∀x∈p2,x.block<W.heap.size:=by obtain⟨m,hm⟩:=k2;exact DataW.trod_lt m _ _ _ hm
  have k3:=h3
  have lt3:∀x∈p3,x.block<W.heap.size:=by obtain⟨m,hm⟩:=k3;exact DataW.trod_lt m _ _ _ hm
  have k4:=h4
  have lt4:∀x∈p4,x.block<W.heap.size:=by obtain⟨m,hm⟩:=k4;exact DataW.trod_lt m _ _ _ hm
  have k5:=h5
  have lt5:∀x∈p5,x.block<W.heap.size:=by obtain⟨m,hm⟩:=k5;exact DataW.trod_lt m _ _ _ hm
  obtain⟨a0,n0,c0,rfl⟩:=okWide_slice Tryz.underlying22 (hval 0 22 v0 rfl rfl)
  obtain⟨f0,hf0⟩:=h0
  obtain⟨ls0,e0,s0,b0,m0⟩:=Rec.open_rec Tryz.underlying22 (by kernel_rfl) Tx.elem_cl hf0
  obtain⟨a1,rfl,rfl,rfl,w1⟩:=open_int Tryz.underlying5 (hval 1 5 v1 rfl rfl) h1
  obtain⟨a2,rfl,rfl,rfl,z2⟩:=Go.ChangeMaps.open_string Tryz.underlying9 (hval 2 9 v2 rfl rfl) h2
  obtain⟨a3,rfl,rfl,rfl,z3⟩:=Go.ChangeMaps.open_string Tryz.underlying9 (hval 3 9 v3 rfl rfl) h3
  obtain⟨a4,rfl,rfl,rfl,w4⟩:=open_int Tryz.underlying3 (hval 4 3 v4 rfl rfl) h4
  obtain⟨a5,rfl,rfl,rfl,z5⟩:=Go.ChangeMaps.open_string Tryz.underlying9 (hval 5 9 v5 rfl rfl) h5
  clear hA0 hval0
  refine(walk W a0 n0 c0 ls0 e0 s0 b0 m0 a1 w1 a2 z2 a3 z3 a4 w4 a5 z5).mono λe W' ⟨he,bel⟩=>?_
  subst he
  exact⟨_,rfl,_,_,_,[],_,[],hW',trodAll_mk1 (shut_bool Tryz.underlying4 _),(trodAll_cons_mk (Below.trod laidOut (by kernel_rfl) (of_decide_eq_true (by kernel_rfl)) k0 bel lt0) (trodAll_cons_mk (Below.trod laidOut (by kernel_rfl) (of_decide_eq_true (by kernel_rfl)) k1 bel lt1) (trodAll_cons_mk (Below.trod laidOut (by kernel_rfl) (of_decide_eq_true (by kernel_rfl)) k2 bel lt2) (trodAll_cons_mk (Below.trod laidOut (by kernel_rfl) (of_decide_eq_true (by kernel_rfl)) k3 bel lt3) (trodAll_cons_mk (Below.trod laidOut (by kernel_rfl) (of_decide_eq_true (by kernel_rfl)) k4 bel lt4) (trodAll_cons_mk (Below.trod laidOut (by kernel_rfl) (of_decide_eq_true (by kernel_rfl)) k5 bel lt5) trodAll_mk0)))))),rfl,bel.frame _,λh=>by cases h⟩
set_option maxRecDepth 100000 in
theorem j1:Rows.txnErrorsRow.wf (OpenSpec.ofChange Rows.txnErrorsSpec)=true:=by kernel_rfl
set_option maxRecDepth 100000 in
theorem j4:(Tryz.f6.params.all (Tryz.prog.readableRec ·)&&namedTie Tryz.prog Rows.txnErrorsRow.named Rows.txnErrorsSpec.vars)=true:=by kernel_rfl
set_option maxRecDepth 100000 in
theorem j9:(Rows.txnErrorsRow.inPlace == Tryz.prog.inPlace 6)=true:=by kernel_rfl
set_option maxRecDepth 100000 in
theorem j10:(Rows.txnErrorsRow.unfollowed == Tryz.prog.unfollowed 6)=true:=by kernel_rfl
set_option maxRecDepth 100000 in
theorem j11:(Rows.txnErrorsRow.recurses == Tryz.prog.recurses 6)=true:=by kernel_rfl
set_option maxRecDepth 100000 in
theorem j12:(Rows.txnErrorsRow.named == Tryz.prog.varsNamed 6)=true:=by kernel_rfl
set_option maxRecDepth 100000 in
theorem joined:joinedFacts Tryz.prog 6 Tryz.f6 Rows.txnErrorsSpec Rows.txnErrorsRow=true :=
  Jn.joined_of j1 Jn.laidOut Jn.mapsRow j4 rfl Jn.stops rfl Jn.knobs j9 j10 j11 j12 (by kernel_rfl) (by kernel_rfl) (by kernel_rfl) Jn.plain rfl Jn.heard Jn.enter Jn.lifts Jn.make (by kernel_rfl) rfl (by kernel_rfl)
theorem h1:Tryz.prog.funcNamed "selion/selionlaw12.TxnErrors" = some 6:=by kernel_rfl
theorem h2:(Tryz.f6).isInstance Tryz.prog Rows.txnErrorsRow.origin Rows.txnErrorsRow.targs:=of_decide_eq_true (by kernel_rfl)
theorem over:Rows.TxnErrorsSaid :=
  OpenClaim.holds_of_wide 6 Tryz.f6 rfl rfl rfl rfl rfl rfl rfl ⟨rfl,rfl,rfl,rfl,rfl⟩ rfl rfl rfl rfl rfl h1 Tryz.func6 joined
    h2 (by unfold Func.isWrapper;rw[if_neg (of_decide_eq_false (by kernel_rfl))];exact⟨rfl,rfl⟩)
    (λos started H enc _=>lifted os started H enc)
set_option maxRecDepth 100000 in
theorem t1:Rows.txnErrorsRow.wfByText (OpenSpec.ofChange Rows.txnErrorsSpec)=true:=by kernel_rfl
set_option maxRecDepth 100000 in
theorem t2:Tryz.prog.mainIs=some (true, "d4b42d0f7d676cb391ee3c079829a2a54aa652639b47f7bb35c712fa28f98fd7".toList):=by kernel_rfl
set_option maxRecDepth 100000 in
theorem t3:true=Tryz.prog.looks []:=by kernel_rfl
set_option maxRecDepth 100000 in
theorem t4:false=Rows.txnErrorsRow.goesBy Tryz.prog:=by kernel_rfl
theorem proved:Rows.TxnErrorsCardSaid :=
  Claim7.holds_tied_plain_at .later [] [.data,.data,.data] true (true, "d4b42d0f7d676cb391ee3c079829a2a54aa652639b47f7bb35c712fa28f98fd7") true
    over (λ_ h=>by cases h) t1 (λ_ h=>by cases h) txnErrors_row_tie rfl ⟨rfl,rfl⟩ t2 rfl
    (λf fn hf hfn=>by
      obtain rfl:f=6:=Option.some.inj (h1.symm.trans hf) |>.symm
      obtain rfl:fn=Tryz.f6:=(Option.some.inj (Tryz.func6.symm.trans hfn)).symm
      exact⟨t3,λj t ht=>by
        rw[Tryz.params6] at ht
        have hm:t∈[22,5,9,9,3,9]:=by simpa using Array.mem_of_getElem? ht
        have hall:([22,5,9,9,3,9].all λu=>!Tryz.prog.wantsStandIn u)=true:=by kernel_rfl
        exact(show Tryz.prog.wantsStandIn t=false by simpa using List.all_eq_true.1 hall t hm)⟩)
    t4
#print axioms proved
end TxnErrors
end Go.Proofs.YtdbapbkeangggaaGreatDoor
