/- Texts, one behind the other, without what is not needed. -/
import Derived.Test.YtpcjhklmaacgcaaGreatSaU
set_option maxHeartbeats 4000000
set_option maxRecDepth 100000
attribute [local go_sem ↓] Go.wp_at_zero Go.wp_at_succ
namespace Go.Proofs.YtpcjhklmaacgcaaGreat
section
open Go.RowKit Go.Maps Go.WideMaps
namespace Im
open St Rec
open Dk (Nm)
open Ch (Ver verK agg VarV SV svK mkV aggV bdV chain)
theorem rowsN_srt (NN:List (Nm×SV)):Dk.Sorted (rowsN NN):=rws_srt _
end Im
end
section
namespace Im
open Go.RowKit
open Rc
open Cd (num bytesOf bytesOf_length Reads reads_num)
open St (sput sel rws grp)
open Dk (Nm)
open Ch (Ver SV bdV mkV chain)
section
variable {NN:List (Nm×SV)}
theorem kvR_mem {L:St.Rows}{x:Kv}(h:x∈kvR L):∃p∈L,x=kvN p:=by
 obtain⟨p,hp,e⟩:=List.mem_map.1 h;exact⟨p,hp,e.symm⟩
theorem nlN (h:Nice NN):∀x∈kvR (rowsN NN),∀v∈x.2,NlT v:=λx hx v hv=>by
 obtain⟨p,hp,rfl⟩:=kvR_mem hx;obtain⟨u,hu,rfl⟩:=List.mem_map.1 hv;exact(rowsN_time h hp hu).2.2.2
end
end Im
end
end Go.Proofs.YtpcjhklmaacgcaaGreat
