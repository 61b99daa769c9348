/- Texts, one behind the other, without what is not needed. -/
import Derived.Test.YtpcjhklmaacgcaaGreatSaV
set_option maxHeartbeats 4000000
set_option maxRecDepth 100000
namespace Go.Proofs.YtpcjhklmaacgcaaGreat
section
namespace Im
open Go.RowKit
open Rc
open Cd (num bytesOf bytesOf_length Reads reads_num)
open St (sput)
open Dk (Nm)
open Ch (Ver)
theorem verT_vT {v:Ver}(h:0<=v.1):verT (vT v)=v:=by
 obtain⟨t,s,g⟩:=v;have h':0<=t:=h
 show((t.toNat:Int),s,g)=(t,s,g)
 rw[Int.toNat_of_nonneg h']
theorem rowsK_kvR {L:St.Rows}(h:∀p∈L,∀v∈p.2,0<=v.1):rowsK (kvR L)=L:=by
 unfold kvR rowsK;rw[List.map_map]
 conv=>rhs;rw[←List.map_id L]
 refine List.map_congr_left λp hp=>?_
 simp only[Function.comp,kvN,nmS_list,List.map_map,id];refine Prod.ext rfl ?_
 show p.2.map (verT ∘ vT)=p.2
 conv=>rhs;rw[←List.map_id p.2]
 exact List.map_congr_left λy hy=>verT_vT (h p hp y hy)
end Im
end
section
namespace Im
open Go.RowKit
open Rc
open Cd (num bytesOf bytesOf_length Reads reads_num)
open St (sput sel rws grp)
open Dk (Nm)
open Ch (Ver SV bdV mkV chain)
section
variable {NN:List (Nm×SV)}
theorem rowsN_nonneg (h:Nice NN):∀p∈rowsN NN,∀x∈p.2,0<=x.1:=λp hp x hx=>by have:=(rowsN_time h hp hx).1;omega
end
end Im
end
end Go.Proofs.YtpcjhklmaacgcaaGreat
