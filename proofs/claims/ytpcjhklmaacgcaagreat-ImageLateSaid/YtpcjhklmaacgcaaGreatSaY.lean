/- Texts, one behind the other, without what is not needed. -/
import Derived.Test.YtpcjhklmaacgcaaGreatSaX
import Derived.Test.YtpcjhklmaacgcaaGreatSaV
set_option maxHeartbeats 4000000
set_option maxRecDepth 100000
namespace Go.Proofs.YtpcjhklmaacgcaaGreat
section
namespace Im
open Go.RowKit
open Rc
open Cd (num bytesOf bytesOf_length Reads reads_num)
open St (sput)
open Dk (Nm)
open Ch (Ver)
theorem kvR_rise {L:St.Rows}(h:Dk.Sorted L):RiseK (kvR L):=by
 unfold RiseK kvR;rw[List.pairwise_map];refine List.Pairwise.imp (fun {a b} h=>?_) h;rw[ltB_b]
 show bytesBefore (nmS a.1).data.toList (nmS b.1).data.toList=true
 rw[nmS_list,nmS_list];exact h
end Im
end
section
namespace Im
open Go.RowKit
open Rc
open Cd (num bytesOf bytesOf_length Reads reads_num)
open St (sput sel rws grp)
open Dk (Nm)
open Ch (Ver SV bdV mkV chain)
section
variable {NN:List (Nm×SV)}
theorem goodN (h:Nice NN){c:Nat}(hc:c<=1099511627776)(hle:∀y∈NN,y.2.1<=c):GoodI c (kvR (rowsN NN)):=by
 refine⟨hc,λx hx=>?_,kvR_rise (rowsN_srt NN)⟩;obtain⟨p,hp,rfl⟩:=kvR_mem hx;obtain⟨hn,hne⟩:=rowsN_name h hp;have hsz:(nmS p.1).size=1:=by rw[nmS_size,hn]
 refine⟨by show 1<=(nmS p.1).size;omega,by show(nmS p.1).size<=32;omega,λe=>hne (List.map_eq_nil_iff.1 e),?_,λv hv=>?_⟩
 ·show(p.2.map vT).Pairwise _
  rw[List.pairwise_map];have ha:Ch.Asc p.2:=by rw[(rowsN_mem hp).1];exact Ch.chain_asc _
  refine List.Pairwise.imp_of_mem (fun {a b} ha hb hab=>?_) ha;have h1:=(rowsN_time h hp ha).1;have h2:=(rowsN_time h hp hb).1
  show a.1.toNat<b.1.toNat
  omega
 ·obtain⟨u,hu,rfl⟩:=List.mem_map.1 hv
  obtain⟨h1,h2,h3,h4⟩:=rowsN_time h hp hu;obtain⟨y,hy,-,rfl⟩:=rowsN_vers h hp hu;have h5:=hle y hy;rw[Ch.mkV_at] at h1 h2;have h6:(vT (mkV y.2)).1=y.2.1.toNat:=by show(mkV y.2).1.toNat=_;rw[Ch.mkV_at]
  exact⟨by rw[h6];omega,by rw[h6];omega,Zt h3 (by omega),h4⟩
theorem isN (h:Nice NN){c u:Nat}{K:List Kv}(hi:IsI (ib c (kvR (rowsN NN))) u K):u=c/\K=kvR (rowsN NN)/\GoodI c (kvR (rowsN NN)):=by
 have e:ib c (kvR (rowsN NN))++[]=ib u K++[]:=by rw[←hi.2]
 obtain⟨rfl,rfl,-⟩:=ib_cut (nlN h) hi.1.nl e;exact⟨rfl,rfl,hi.1⟩
end
end Im
end
end Go.Proofs.YtpcjhklmaacgcaaGreat
