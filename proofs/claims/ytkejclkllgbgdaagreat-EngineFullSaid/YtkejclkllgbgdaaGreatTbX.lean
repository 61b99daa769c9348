/- Texts, one behind the other, without what is not needed. -/
import Derived.Test.YtkejclkllgbgdaaGreatTbW
set_option maxHeartbeats 4000000
set_option maxRecDepth 100000
attribute [local go_sem ↓] Go.wp_at_zero Go.wp_at_succ
namespace Go.Proofs.YtkejclkllgbgdaaGreat
section
open Go.RowKit Go.WideMaps
namespace Dx
open Mp Lk Rec Tx
open Ch (Ver Ver.zero verK agg)
open Pw (Keeps)
section
variable {w:World}{base gb:Nat}{F:List Nat}{S:MS}
theorem pt_is (h:DIs w base gb F S){c:Nat}(hb:Bd c S)(hc:c<=100){n:Int}(hn:(Lit.int .i64 n).wf=true) :
  Calls Tryz.prog 68 #[.pointer (some ⟨gb,0,none⟩),.int .i64 n] w λe w'=>e=.returned (.tuple #[.int .u64 (S.point n).1,.int .i64 (S.point n).2])/\DIs w' base gb F S/\Below w.heap.size w w':=by
 have hD:=λw' hb=>h.below (w':=w') hb
 obtain⟨sb,lb,kb,lv,sv,rs,R,V,K,h,rfl⟩:=h;have hS:=h.get n;unfold MS.point
 cases hg:Mp.get n V with
 |none =>
  rw[hg] at hS;rw[hS];refine(point_none h hn hg).mono ?_;rintro e w' ⟨rfl,hb'⟩;exact⟨rfl,hD _ hb',hb'⟩
 |some y =>
  rw[hg] at hS;rw[hS];simp only[Option.map_some]
  cases hs:y.tx.snap with
  |true =>
   rw[if_pos rfl];refine(point_snap h hn hg hs).mono ?_;rintro e w' ⟨rfl,hb'⟩;exact⟨rfl,hD _ hb',hb'⟩
  |false =>
   rw[if_neg (by simp)];obtain⟨o,ho⟩:∃o,pointFrom n S.taken S.locks (keysOf y.tx) y.tx.lo (y.tx.hi+1-y.tx.lo).toNat=o:=⟨_,rfl⟩;rw[ho];refine(point_any h hb hc hn hg hs ho).mono ?_;rintro e w' ⟨rfl,hb'⟩;refine⟨?_,hD _ hb',hb'⟩
   cases o<;>rfl
theorem commit_is (h:DIs w base gb F S){c:Nat}(hb:Bd c S)(hc:c<=90){n:Int}(hn:(Lit.int .i64 n).wf=true) :
  Calls Tryz.prog 36 #[.pointer (some ⟨gb,0,none⟩),.int .i64 n] w λe w'=>e=.returned (.tuple #[.int .u64 (S.commit n).1.1,.int .i64 (S.commit n).1.2])/\∃F',DIs w' base gb F' (S.commit n).2/\Turned w w' F F':=by
 obtain⟨sb,lb,kb,lv,sv,rs,R,V,K,h,rfl⟩:=h;have hS:=h.get n;unfold MS.commit
 cases hg:Mp.get n V with
 |none =>
  rw[hg] at hS;rw[hS];refine(commit_none h hn hg).mono ?_;rintro e w' ⟨rfl,hb'⟩;exact⟨rfl,_,⟨sb,lb,kb,lv,sv,rs,R,V,K,h.below hb',rfl⟩,Turned.below _ hb'⟩
 |some y =>
  rw[hg] at hS;rw[hS];simp only[Option.map_some]
  cases hs:y.tx.snap with
  |true =>
   rw[if_pos rfl];refine(commit_snap h hn hg hs).mono ?_;rintro e w' ⟨rfl,hI,hK⟩;refine⟨rfl,_,⟨sb,lb,kb,lv,sv,rs,R,_,K,hI,rfl⟩,hK.mono (λb hb=>?_),λb hb=>.inl (gone_foot hb)⟩;rw[List.mem_singleton] at hb;exact mem_foot.2 (.inr (.inr (.inl hb)))
  |false =>
   rw[if_neg (by simp)]
   cases ho:pointFrom n S.taken S.locks (keysOf y.tx) y.tx.lo (y.tx.hi+1-y.tx.lo).toNat with
   |none =>
    simp only[];refine(commit_conf h hb (by omega) hn hg hs ho).mono ?_;rintro e w' ⟨rfl,lv',hI,hK,hL⟩;refine⟨rfl,_,⟨sb,lb,kb,lv',sv,rs,R,_,K,hI,rfl⟩,hK.mono (λb hb=>?_),λb hb=>?_⟩
    ·simp only[List.mem_cons,List.not_mem_nil,or_false] at hb
     rcases hb with rfl|rfl
     ·exact mem_foot.2 (.inl rfl)
     ·exact mem_foot.2 (.inr (.inr (.inl rfl)))
    ·exact rows_foot (A:=λb=>w.heap.size<=b) (λb hb=>.inr (hL b hb)) (λb hb=>.inl hb) (gone_foot hb)
   |some t =>
    simp only[];refine(commit_done h hb hc hn hg hs ho).mono ?_;rintro e w' ⟨rfl,lv',sv',rs',R',K',hI,hK,hL,hV⟩;refine⟨rfl,_,⟨sb,lb,kb,lv',sv',rs',R',_,K',hI,rfl⟩,hK,λb hb=>?_⟩;exact rows_foot (A:=λb=>w.heap.size<=b) (λb hb=>.inr (hL b hb)) hV (gone_foot hb)
theorem abort_is (h:DIs w base gb F S){c:Nat}(hb:Bd c S)(hc:c<=1000){n:Int}(hn:(Lit.int .i64 n).wf=true) :
  Calls Tryz.prog 14 #[.pointer (some ⟨gb,0,none⟩),.int .i64 n] w λe w'=>e=.returned (.int .i64 (S.abort n).1)/\∃F',DIs w' base gb F' (S.abort n).2/\Turned w w' F F':=by
 obtain⟨sb,lb,kb,lv,sv,rs,R,V,K,h,rfl⟩:=h;have hS:=h.get n;unfold MS.abort
 cases hg:Mp.get n V with
 |none =>
  rw[hg] at hS;rw[hS];refine(abort_no h hn hg).mono ?_;rintro e w' ⟨rfl,hb'⟩;exact⟨rfl,_,⟨sb,lb,kb,lv,sv,rs,R,V,K,h.below hb',rfl⟩,Turned.below _ hb'⟩
 |some y =>
  rw[hg] at hS;rw[hS];simp only[Option.map_some];refine(abort_any h hn hg (Zt hb.locks hc)).mono ?_;rintro e w' ⟨rfl,lv',hI,hK,hL⟩;refine⟨rfl,_,⟨sb,lb,kb,lv',sv,rs,R,_,K,hI,rfl⟩,hK.mono (λb hb=>?_),λb hb=>?_⟩
  ·simp only[List.mem_cons,List.not_mem_nil,or_false] at hb
   rcases hb with rfl|rfl
   ·exact mem_foot.2 (.inl rfl)
   ·exact mem_foot.2 (.inr (.inr (.inl rfl)))
  ·exact rows_foot (A:=λb=>w.heap.size<=b) (λb hb=>.inr (hL b hb)) (λb hb=>.inl hb) (gone_foot hb)
end
end Dx
end
section
open Go.RowKit Go.WideMaps Go.Maps Go.Sort Go.Shelf
namespace Dx
open Mp Lk Rec Tx
open Ch (Ver Ver.zero verK agg)
open Pw (Keeps)
open Dk (sortsStr)
theorem sortsI2 (m:Nat):AnyZI.SortsIn Tryz.prog laySortedI_ren Fence.wide m:=Tx.sortsI m
theorem keysS_dat {α H:Type}(g:α->H)(L:List (ByteArray×α)):strKeys (Mp.dat g L)=L.map λp=>p.1.data.toList:=by
 simp only[strKeys,Mp.dat,List.map_map]
 rfl
theorem encB (k:ByteArray):encStr k.data.toList=.string k:=by
 unfold encStr;simp
theorem names_srt {α:Type}{L:List (ByteArray×α)}(hs:Mp.Sorted L){ss:List (List UInt8)}(h:ss.Perm (L.map λp=>p.1.data.toList)):ss.mergeSort (λx y=>decide (x<=y))=L.map λp=>p.1.data.toList:=by
 have h1:=mergeSort_of_perm h;refine h1.trans ?_;refine List.mergeSort_of_pairwise ?_;rw[List.pairwise_map];exact hs.imp (fun {a b} hab=>by
  have:bytesBefore a.1.data.toList b.1.data.toList=true:=hab
  simpa using Dk.before_le this)
theorem keysW_any (mb:Option Nat)(W:World):CallsIn Fence.wide 5 Tryz.prog 100 #[.map mb] W λe w'=>e=.returned (.func (.func 133) #[] #[.pointer (some ⟨W.heap.size,0,none⟩)])/\w'=W.alloc (.cells #[.map mb] 98) :=
 AnyZ.keys_in layKeysW Fence.wide 5 trivial rfl mb W
theorem sortedW_any (mb:Nat)(L:List (ByteArray×Ver))(w:World)(hown:Owns Tryz.prog 9 verV w mb L)(hs:Mp.Sorted L)(hsz:L.length<=1000000) :
  CallsIn Fence.wide 5 Tryz.prog 77 #[.func (.func 133) #[] #[.pointer (some ⟨w.heap.size,0,none⟩)]] (w.alloc (.cells #[.map (some mb)] 98)) λe w'=>∃v,e=.returned v /\
   w'.ownsRow (w.alloc (.cells #[.map (some mb)] 98)).heap.size 9 1 v L.length (L.map λp=>.string p.1)/\Below (w.alloc (.cells #[.map (some mb)] 98)).heap.size (w.alloc (.cells #[.map (some mb)] 98)) w':=by
 have hown':w.ownsMap Tryz.prog 9 anyR mb L.length (Mp.dat verV L):=hown;have hbl:=hown'.lt;have hmax:Maps.size (Mp.dat verV L)<=maxLen:=by rw[Mp.dat_size];unfold maxLen;omega
 have hbytes:Maps.size (Mp.dat verV L)*16<=140737488355328:=by rw[Mp.dat_size];omega
 have hseq:SeqGives Fence.wide 2 Tryz.prog 133 #[.pointer (some ⟨w.heap.size,0,none⟩)] encStr (λss=>ss.Perm (strKeys (Mp.dat verV L))) (Maps.size (Mp.dat verV L)) (w.alloc (.cells #[.map (some mb)] 98)) :=
  AnyZ.keys_gives (ρ:=layKeysW_ren) { layKeysW with } Fence.wide _ trivial rfl (by omega) w.heap.size mb L.length _ _ (by simp) (by simp) (by
   obtain⟨es,clock,hb,Ft,hs,hD⟩:=hown';exact⟨es,clock,(Below.heap_alloc _ _ mb hbl).trans hb,Ft,hs,hD⟩)
 have hres:=AnyZ.sorted_in laySorted Fence.wide 5 trivial trivial trivial trivial rfl (by omega) (sortsStr _) (enters_of Tryz.func114 (by kernel_rfl) rfl) 133 #[.pointer (some ⟨w.heap.size,0,none⟩)] trivial (enters_of Tryz.func133 (by kernel_rfl) rfl) _ _ hmax hbytes _ hseq;refine hres.mono ?_;rintro e w' ⟨v,ss,rfl,hS,hrow,_,hb⟩;rw[keysS_dat] at hS;have hl:ss.length=L.length:=by have:=hS.length_eq;simpa using this
 have hrow':w'.ownsRow (w.alloc (.cells #[.map (some mb)] 98)).heap.size 9 1 v L.length ((ss.mergeSort (λx y=>decide (x<=y))).map encStr):=hl▸hrow;rw[names_srt hs hS,List.map_map] at hrow';have he:L.map (encStr ∘ λp=>p.1.data.toList)=L.map λp=>Value.string p.1:=List.map_congr_left λp _=>encB p.1
 rw[he] at hrow';exact⟨v,rfl,hrow',hb⟩
theorem keysA_any (mb:Option Nat)(W:World):CallsIn Fence.wide 5 Tryz.prog 38 #[.map mb] W λe w'=>e=.returned (.func (.func 75) #[] #[.pointer (some ⟨W.heap.size,0,none⟩)])/\w'=W.alloc (.cells #[.map mb] 72) :=
 AnyZI.keys_in layKeysA Fence.wide 5 trivial rfl mb W
theorem sortedA_any (mb:Nat)(L:List (Int×TA))(w:World)(hown:Owns Tryz.prog 3 TA.val w mb L)(hs:Mp.Sorted L)(hsz:L.length<=1000000) :
  CallsIn Fence.wide 5 Tryz.prog 37 #[.func (.func 75) #[] #[.pointer (some ⟨w.heap.size,0,none⟩)]] (w.alloc (.cells #[.map (some mb)] 72)) λe w'=>∃v,e=.returned v /\
   w'.ownsRow (w.alloc (.cells #[.map (some mb)] 72)).heap.size 3 1 v L.length ((L.map (·.1)).map encZ)/\Below (w.alloc (.cells #[.map (some mb)] 72)).heap.size (w.alloc (.cells #[.map (some mb)] 72)) w':=by
 have hown':w.ownsMap Tryz.prog 3 anyR mb L.length (Mp.dat TA.val L):=hown;have hbl:=hown'.lt;have hmax:Maps.size (Mp.dat TA.val L)<=maxLen:=by rw[Mp.dat_size];unfold maxLen;omega
 have hbytes:Maps.size (Mp.dat TA.val L)*8<=140737488355328:=by rw[Mp.dat_size];omega
 have hseq:SeqGives Fence.wide 2 Tryz.prog 75 #[.pointer (some ⟨w.heap.size,0,none⟩)] encZ (λss=>ss.Perm (intKeys (Mp.dat TA.val L))) (Maps.size (Mp.dat TA.val L)) (w.alloc (.cells #[.map (some mb)] 72)) :=
  AnyZI.keys_gives (ρ:=layKeysA_ren) { layKeysA with } Fence.wide _ trivial rfl (by omega) w.heap.size mb L.length _ _ (by simp) (by simp) (by
   obtain⟨es,clock,hb,Ft,hs,hD⟩:=hown';exact⟨es,clock,(Below.heap_alloc _ _ mb hbl).trans hb,Ft,hs,hD⟩)
 have hres:=AnyZI.sorted_in laySortedI Fence.wide 5 trivial trivial trivial trivial rfl (by omega) (sortsI2 _) (enters_of Tryz.func74 (by kernel_rfl) rfl) 75 #[.pointer (some ⟨w.heap.size,0,none⟩)] trivial (enters_of Tryz.func75 (by kernel_rfl) rfl) _ _ hmax hbytes _ hseq;refine hres.mono ?_;rintro e w' ⟨v,ss,rfl,hS,hrow,_,hb⟩;rw[Tx.keysT_dat] at hS;have hl:ss.length=L.length:=by have:=hS.length_eq;simpa using this
 have hrow':w'.ownsRow (w.alloc (.cells #[.map (some mb)] 72)).heap.size 3 1 v L.length ((ss.mergeSort (λx y=>decide (x<=y))).map encZ):=hl▸hrow;rw[Tx.nums_sorted hs hS] at hrow';exact⟨v,rfl,hrow',hb⟩
end Dx
end
section
open Go.RowKit Go.WideMaps Go.Maps Go.Sort Go.Shelf
namespace Dx
open Mp Lk Rec Tx
open Ch (Ver Ver.zero verK agg)
open Pw (Keeps)
open Dk (own_keeps keeps_grown)
section
variable {w w1:World}{base gb sb lb kb:Nat}{lv sv:Value}{rs:List St.Ent}{R:St.Rows}{V:List (Int×TA)}{K:List (Tm×Unit)}{S:MS}{F:List Nat}
theorem live_any (h:InD w base gb sb lb kb lv sv rs R V K S) :
  Calls Tryz.prog 12 #[.pointer (some ⟨gb,0,none⟩)] w λe w'=>∃v,e=.returned v/\w'.ownsRow w.heap.size 3 1 v S.live.length ((S.live.map (·.1)).map encZ)/\Below w.heap.size w w':=by
 obtain⟨-,-,-,-,c4,-⟩:=h.cells;have hml:=h.lt;have hs:=Zh h.srtV;have ho:=Zh h.live;have hfw:=h.few;have hf16:=h.inv.few;have HL:=Zh (show V.length=S.live.length/\V.map (·.1)=S.live.map (·.1) from⟨h.few,by rw[h.liveS];simp[lift,List.map_map,Function.comp_def]⟩);have hsz:V.length<=1000000:=by omega
 clear h hfw hf16;refine(callsIn_wide (n:=6)).1 ?_;have hfK:Fence.wide.fn 38:=trivial;have hfS:Fence.wide.fn 37:=trivial;refine callsIn_of_wp Tryz.func12 rfl trivial ?_ rfl;simp only[Tryz.ntmps12,List.size_toArray,List.length_cons,List.length_nil,Nat.reduceAdd,Nat.reduceSub,Array.replicate_succ,Array.replicate_zero,List.push_toArray,List.append_toArray,List.nil_append,List.cons_append]
 gi_wp2_with (first
  |(gi_at_call 38;refine(keysA_any _ _).mono ?_;rintro e w' ⟨rfl,rfl⟩)
  |(gi_at_call 37;refine(sortedA_any lb V w ho.out hs.out hsz).mono ?_;rintro e w' ⟨v,rfl,hrow,hb⟩))
 go_ret;refine⟨v,rfl,?_,((Zb _ w).alloc (Zr _) _).trans (hb.mono (by simp))⟩;have:=own_base hrow (show w.heap.size<=_ by simp)
 rwa [HL.out.1,HL.out.2] at this
theorem wrote_no (h:InD w base gb sb lb kb lv sv rs R V K S){n:Int}(hn:(Lit.int .i64 n).wf=true)(hg:Mp.get n V=none) :
  Calls Tryz.prog 67 #[.pointer (some ⟨gb,0,none⟩),.int .i64 n] w λe w'=>e=.returned (.slice none 0 0)/\Below w.heap.size w w':=by
 obtain⟨-,-,-,-,c4,-⟩:=h.cells;have hl:=h.look_no hn hg;have hml:=h.lt;clear h
 go_enter Tryz.func67,Tryz.ntmps67
 go_wp2
 go_ret;exact⟨rfl,Zb _ _⟩
theorem wrote_any (h:InD w base gb sb lb kb lv sv rs R V K S){n:Int}(hn:(Lit.int .i64 n).wf=true){y:TA}(hg:Mp.get n V=some y)(hsz:y.tx.wrote.length<=1000000) :
  Calls Tryz.prog 67 #[.pointer (some ⟨gb,0,none⟩),.int .i64 n] w λe w'=>∃v,e=.returned v/\w'.ownsRow w.heap.size 9 1 v y.tx.wrote.length (y.tx.wrote.map λp=>.string p.1)/\Below w.heap.size w w':=by
 obtain⟨-,-,-,-,c4,-⟩:=h.cells;have hl:=h.look_ok hn hg;have hml:=h.lt;have ht:=h.t hg;obtain⟨-,-,-,t3⟩:=ht.cells;have htl:=heap_lt ht.obj;have hs:=Zh (h.tx hg).srt;have ho:=Zh ht.wro;clear h ht;refine(callsIn_wide (n:=6)).1 ?_;have hfK:Fence.wide.fn 100:=trivial;have hfS:Fence.wide.fn 77:=trivial;refine callsIn_of_wp Tryz.func67 rfl trivial ?_ rfl;simp only[Tryz.ntmps67,List.size_toArray,List.length_cons,List.length_nil,Nat.reduceAdd,Nat.reduceSub,Array.replicate_succ,Array.replicate_zero,List.push_toArray,List.append_toArray,List.nil_append,List.cons_append]
 gi_wp2_with (first
  |(gi_at_call 100;refine(keysW_any _ _).mono ?_;rintro e w' ⟨rfl,rfl⟩)
  |(gi_at_call 77;refine(sortedW_any y.wm y.tx.wrote w ho.out hs.out hsz).mono ?_;rintro e w' ⟨v,rfl,hrow,hb⟩))
 go_ret;exact⟨v,rfl,own_base hrow (by simp),((Zb _ w).alloc (Zr _) _).trans (hb.mono (by simp))⟩
theorem version_any (h:InD w base gb sb lb kb lv sv rs R V K S){n:Int}(hn:(Lit.int .i64 n).wf=true){y:TA}(hg:Mp.get n V=some y)(k:ByteArray)(hk:k.size<=maxLen){v:Ver}(hv:Mp.get k y.tx.wrote=some v) :
  Calls Tryz.prog 69 #[.pointer (some ⟨gb,0,none⟩),.int .i64 n,.string k] w λe w'=>e=.returned (agg v)/\Below w.heap.size w w':=by
 have hb:=bAlloc (Zb w.heap.size w) (.cells #[.int .u64 0,.string ⟨#[]⟩,.bool false] 40);have h1:=h.below hb;obtain⟨-,-,-,-,c4,-⟩:=h1.cells;have hl:=h1.look_ok hn hg;have hml:=h1.lt;have ht:=h1.t hg;obtain⟨-,-,-,t3⟩:=ht.cells;have htl:=heap_lt ht.obj;have hlk:=ht.wro.look kofS Tryz.underlying98 (Tryz.zeroValue40 _) (x:=k) hk;rw[hv,show(KeyT.key k:Value)=.string k from rfl] at hlk;have hne:=h.lt;have hml0:y.ab<w.heap.size:=heap_lt (h.t hg).obj;have HB:=Zh hb;obtain⟨v0,v1,v2⟩:=v;simp only[verV] at hlk;clear h h1 ht hb
 go_enter Tryz.func69,Tryz.ntmps69
 go_wp2
 refine Zp (v:=.agg #[.int .u64 v0,.string v1,.bool v2]) (by simp[results,Tryz.results69,go_sem]) rfl ⟨rfl,?_⟩;have hb:=HB.out
 repeat (first|exact hb|apply bAlloc|apply bSet|exact Zb _ _|(simp only[];omega))
theorem new_any {v:Value}(hst:St.Store w base sb v [] [])(hbase:base<=w.heap.size) :
  Calls Tryz.prog 49 #[.pointer (some ⟨sb,0,none⟩),.int .u64 0] w λe w'=>∃gb lb kb,e=.returned (.pointer (some ⟨gb,0,none⟩))/\InD w' base gb sb lb kb (.slice none 0 0) v [] [] [] [] ⟨[],[],0,0,[],[]⟩/\Below w.heap.size w w'/\w.heap.size<=gb/\w.heap.size<=lb/\w.heap.size<=kb:=by
 have hmm:=@run_makeMap Tryz.prog;have H:=Zh hst;clear hst
 go_enter Tryz.func49,Tryz.ntmps49
 go_wp2
 go_ret;have hb:Below w.heap.size w (((w.alloc (.map #[] 0)).alloc (.map #[] 0)).alloc (.cells #[.pointer (some ⟨sb,0,none⟩),.slice none 0 0,.int .u64 0,.int .i64 0,.map (some w.heap.size),.map (some (w.heap.size+1))] 75)):=bAlloc (bAlloc (bAlloc (Zb _ _) _) _) _;refine⟨w.heap.size+1+1,w.heap.size,w.heap.size+1,rfl,{ obj:=?_,store:=H.out.below hb,locks:=World.ownsRow_nil _ _ _ _,live:=?_,taken:=?_,ts:=(λp hp=>by cases hp),liveS:=rfl,rowsS:=(λk=>rfl),takenS:=(λt=>by simp),srtK:=.nil,one:=(λp hp=>by cases hp),maps:=⟨by omega,(λp hp=>by cases hp)⟩,low:=(by omega),inv:=inv_new },hb,by omega,by omega,by omega⟩
 ·have:=Zn ((w.alloc (.map #[] 0)).alloc (.map #[] 0)) (.cells #[.pointer (some ⟨sb,0,none⟩),.slice none 0 0,.int .u64 0,.int .i64 0,.map (some w.heap.size),.map (some (w.heap.size+1))] 75)
  rw[World.size_alloc,World.size_alloc] at this;exact this
 ·have:=Owns.made (κ:=Int) Tryz.prog 3 TA.val w
  exact Owns.keeps this (Keeps.of_below [] (bAlloc (bAlloc (Zb _ _) _) _)) (by simp)
 ·have:=Owns.made (κ:=Tm) Tryz.prog 22 yes (w.alloc (.map #[] 0))
  rw[World.size_alloc] at this;exact Owns.keeps this (Keeps.of_below [] (bAlloc (Zb _ _) _)) (by simp)
end
end Dx
end
section
open Go.RowKit Go.WideMaps
namespace Eg
open Mp Lk Tx En
open Rec
open Ch (Ver Ver.zero Unlike)
open Pw (Keeps)
theorem after_any (E:List Re)(a:Option Addr)(n c:Nat)(hn:E.length=n)(hm:n<=1000000)(t:Int)(hno:∀y∈E,y.1≠t)(w:World)(hr:Row reK w a E) :
  Calls Tryz.prog 47 #[.slice a n c,.int .u64 t] w λe w'=>e=.returned (.slice a n c)/\Below w.heap.size w w':=by
 have HR:=Zh hr;have HN:=Zh (Za hn hno);clear hr hn hno
 go_enter Tryz.func47,Tryz.ntmps47
 go_wp2
 go_loopw [9] (λi wr=>∃k:Nat,i=.int .i64 k/\k<=n/\Below w.heap.size w wr) (λi _=>n-(intOf i).toNat)
 case atStart=>exact⟨0,rfl,Nat.zero_le _,Zb _ _⟩
 case round =>
  obtain⟨k,rfl,hk,hb⟩:=hrel;have HB:=Zh hb
  by_cases hlt:k<n
  ·have hltz:(k:Int)<(n:Int):=by omega
   obtain⟨y,hy⟩:∃y,E[k]?=some y:=⟨_,Zg (by rw[HN.out.1];exact hlt)⟩;obtain⟨b,off,rfl,hbl,k0,k1⟩:=Row.re (HR.out.below hb) hy;have hne:¬(y.1=t):=HN.out.2 y (Zm hy);obtain⟨y0,y1,y2,y3⟩:=y;simp only[] at k0 k1 hne;generalize y3.length=yn at *;clear hb hy
   go_wp2
   exact⟨⟨k+1,by go_num,by omega,bAlloc HB.out _⟩,by simp[intOf];omega⟩
  ·obtain rfl:k=n:=by omega
   clear hb
   go_wp2
   go_ret;exact⟨rfl,HB.out⟩
theorem new_at {w:World}{base sb:Nat}{v:Value}{rs:List St.Ent}{V:Vs}{c:Int}(hst:St.Store w base sb v rs (rowsOf V))(hbase:base<=w.heap.size)(hinv:Inv ⟨V,[],c,0,[],[]⟩) :
  Calls Tryz.prog 49 #[.pointer (some ⟨sb,0,none⟩),.int .u64 c] w λe w'=>∃gb lb kb,e=.returned (.pointer (some ⟨gb,0,none⟩))/\Dx.InD w' base gb sb lb kb (.slice none 0 0) v rs (rowsOf V) [] [] ⟨V,[],c,0,[],[]⟩/\Below w.heap.size w w'/\w.heap.size<=gb/\w.heap.size<=lb/\w.heap.size<=kb:=by
 have hmm:=@run_makeMap Tryz.prog;have H:=Zh (Za hst hinv);clear hst hinv
 go_enter Tryz.func49,Tryz.ntmps49
 go_wp2
 go_ret;have hb:Below w.heap.size w (((w.alloc (.map #[] 0)).alloc (.map #[] 0)).alloc (.cells #[.pointer (some ⟨sb,0,none⟩),.slice none 0 0,.int .u64 c,.int .i64 0,.map (some w.heap.size),.map (some (w.heap.size+1))] 75)):=bAlloc (bAlloc (bAlloc (Zb _ _) _) _) _;refine⟨w.heap.size+1+1,w.heap.size,w.heap.size+1,rfl,{ obj:=?_,store:=H.out.1.below hb,locks:=World.ownsRow_nil _ _ _ _,live:=?_,taken:=?_,ts:=(λp hp=>by cases hp),liveS:=rfl,rowsS:=(λk=>rowsOf_get V k),takenS:=(λt=>by simp),srtK:=.nil,one:=(λp hp=>by cases hp),maps:=⟨by omega,(λp hp=>by cases hp)⟩,low:=(by omega),inv:=H.out.2 },hb,by omega,by omega,by omega⟩
 ·have:=Zn ((w.alloc (.map #[] 0)).alloc (.map #[] 0)) (.cells #[.pointer (some ⟨sb,0,none⟩),.slice none 0 0,.int .u64 c,.int .i64 0,.map (some w.heap.size),.map (some (w.heap.size+1))] 75)
  rw[World.size_alloc,World.size_alloc] at this;exact this
 ·have:=Owns.made (κ:=Int) Tryz.prog 3 Dx.TA.val w
  exact Owns.keeps this (Keeps.of_below [] (bAlloc (bAlloc (Zb _ _) _) _)) (by simp)
 ·have:=Owns.made (κ:=Dx.Tm) Tryz.prog 22 Dx.yes (w.alloc (.map #[] 0))
  rw[World.size_alloc] at this;exact Owns.keeps this (Keeps.of_below [] (bAlloc (Zb _ _) _)) (by simp)
end Eg
end
section
open Go.RowKit Go.WideMaps
namespace Eg
open Mp Lk Tx En
open Rec
open Ch (Ver Ver.zero Unlike)
open Pw (Keeps)
open Dk (Fl Nm at' Disk own_keeps keeps_grown_row)
open Dx (DIs InD)
open Rc (Wt wrK)
open St (Turns IsSt)
open Wl (Log)
def RB (m:Nat)(R:St.Rows):Prop:=R.length<=m/\∀p∈R,p.2.length<=m
theorem RB.put {m:Nat}{R:St.Rows}(h:RB m R)(k:Nm)(v:Ver):RB (m+1) (St.sput k v R):=by
 refine⟨Zt (Dk.length_put _ _ _) (Nat.succ_le_succ h.1),λp hp=>?_⟩;rcases Dk.mem_put.1 hp with e|⟨hp,-⟩
 ·subst e
  show(Ch.put ((Dk.get k R).getD []) v).length<=_
  refine Zt (Ch.put_len _ _) ?_
  cases hg:Dk.get k R with
  |none=>exact Nat.succ_le_succ (Nat.zero_le _)
  |some c=>exact Nat.succ_le_succ (h.2 _ (Dk.get_mem hg))
 ·exact Zt (h.2 p hp) (Nat.le_succ _)
def sputW (t:Int)(L:List Wt)(R:St.Rows):St.Rows:=L.foldl (λR x=>St.sput x.1.data.toList (t,x.2.1,x.2.2) R) R
def stR (R:St.Rows)(y:Re):St.Rows:=sputW y.1 y.2.2.2 R
def stC (c:Int)(y:Re):Int:=if y.1 > c then y.1 else c
theorem RB.puts (t:Int):∀{L:List Wt}{m:Nat}{R:St.Rows},RB m R->RB (m+L.length) (sputW t L R)
 |[],_,_,h=>h
 |x::L,m,R,h=>by
  have:=RB.puts t (L:=L) (h.put x.1.data.toList (t,x.2.1,x.2.2));rw[List.length_cons,show m+(L.length+1)=m+1+L.length by omega];exact this
def wnum (E:List Re):Nat:=(E.map λy=>y.2.2.2.length).sum
theorem RB.all:∀{E:List Re}{m:Nat}{R:St.Rows},RB m R->RB (m+wnum E) (E.foldl stR R)
 |[],_,_,h=>h
 |y::E,m,R,h=>by
  have:=RB.all (E:=E) (h.puts y.1 (L:=y.2.2.2));have e:wnum (y::E)=y.2.2.2.length+wnum E:=by simp[wnum]
  rw[e,show m+(y.2.2.2.length+wnum E)=m+y.2.2.2.length+wnum E by omega];exact this
theorem RB.up {m n:Nat}{R:St.Rows}(h:RB m R)(hn:m<=n):RB n R:=⟨Zt h.1 hn,λp hp=>Zt (h.2 p hp) hn⟩
theorem sputs_W (t:Int)(W:List (ByteArray×Ver))(R:St.Rows):sputW t (W.map wtO) R=sputs t W R:=by
 unfold sputW sputs;rw[List.foldl_map]
 rfl
theorem all_R:∀{E:List Re}{l:List (Int×List (ByteArray×Ver))}{R:St.Rows},E.map Re.plain=l.map recW->E.foldl stR R=l.foldl putsR R
 |[],[],_,_=>rfl
 |[],_::_,_,h=>by cases h
 |_::_,[],_,h=>by cases h
 |y::E,r::l,R,h=>by
  rw[List.map_cons,List.map_cons,List.cons.injEq] at h;rw[List.foldl_cons,List.foldl_cons,all_R h.2];have h1:y.1=r.1:=congrArg Prod.fst h.1;have h2:y.2.2.2=r.2.map wtO:=congrArg Prod.snd h.1
  congr 1
  unfold stR putsR;rw[h1,h2,sputs_W]
theorem all_C:∀{E:List Re}{l:List (Int×List (ByteArray×Ver))}{c:Int},E.map Re.plain=l.map recW->E.foldl stC c=l.foldl maxR c
 |[],[],_,_=>rfl
 |[],_::_,_,h=>by cases h
 |_::_,[],_,h=>by cases h
 |y::E,r::l,c,h=>by
  rw[List.map_cons,List.map_cons,List.cons.injEq] at h;rw[List.foldl_cons,List.foldl_cons,all_C h.2];have h1:y.1=r.1:=congrArg Prod.fst h.1
  congr 1
  unfold stC maxR;rw[h1]
  split<;>omega
theorem all_W:∀{E:List Re}{l:List (Int×List (ByteArray×Ver))},E.map Re.plain=l.map recW->wnum E=lsum l
 |[],[],_=>rfl
 |[],_::_,h=>by cases h
 |_::_,[],h=>by cases h
 |y::E,r::l,h=>by
  rw[List.map_cons,List.map_cons,List.cons.injEq] at h;have:=all_W h.2;have h2:y.2.2.2=r.2.map wtO:=congrArg Prod.snd h.1;simp only[wnum,lsum,List.map_cons,List.sum_cons,h2,List.length_map] at this ⊢;omega
theorem wnum_take (E:List Re)(k:Nat)(y:Re)(h:E[k]?=some y):wnum (E.take k)+y.2.2.2.length<=wnum E:=by
 have e:wnum E=wnum (E.take k)+wnum (E.drop k):=by
  have h2:∀A B:List Re,wnum (A++B)=wnum A+wnum B:=by intro A B;simp[wnum]
  have:=h2 (E.take k) (E.drop k)
  rwa [List.take_append_drop] at this
 have hk:=(List.getElem?_eq_some_iff.1 h).1;have hd:E.drop k=y::E.drop (k+1):=by
  rw[List.drop_eq_getElem_cons hk,(List.getElem?_eq_some_iff.1 h).2]
 rw[e,hd];have:wnum (y::E.drop (k+1))=y.2.2.2.length+wnum (E.drop (k+1)):=by simp[wnum]
 omega
theorem max_u64 {P:Program}{w:World}{a b:Int}(ts:Array TypeId)(ty:TypeId):(Builtin.max_ ts ty #[.int .u64 a,.int .u64 b]).run P w=.ok (.int .u64 (if b > a then b else a)) w:=by
 simp[Builtin.max_,Builtin.max2]
structure Can (D:Kp):Prop where
 img:∀i,D.img=some i->ImgIn i
 tim:∀r∈D.log,1<=r.1/\r.1<=1099511627776/\RecOk r.2
 had:∀i,D.img=some i->∀r∈D.log,r.1≠i.1
 len:(fileL D).length<=1000000
 sum:vsum D.ivs+lsum D.log<=1000
 srt:Sorted D.ivs
 ne:∀q∈D.ivs,q.2≠[]
 inv:Inv (fresh D)
theorem mk_le:∀vs:List Ver,(Ch.mk vs).length<=vs.length:=λvs=>by
 have:∀(l:List Ver) (a:List Ver),(l.foldl Ch.put a).length<=a.length+l.length:=λl=>by
  induction l with
  |nil=>intro a;simp
  |cons v l ih =>
   intro a;have h1:=ih (Ch.put a v);have h2:=Ch.put_len a v;rw[List.foldl_cons,List.length_cons];omega
 have:=this vs []
 simpa [Ch.mk] using this
theorem Can.rb {D:Kp}(h:Can D):RB (vsum D.ivs) (rowsOf D.ivs):=by
 refine⟨by rw[En.rows_len];exact keys_vsum h.ne,λp hp=>?_⟩;obtain⟨q,hq,rfl⟩:=List.mem_map.1 hp;exact Zt (mk_le q.2) (len_vsum q hq)
theorem Sta.can {c:Nat}{S:MS}{D:Kp}(h:Sta c S D)(hc:c<=50):Can D:=by
 have hinv:=h.opened.inv;obtain⟨⟨p,ho⟩,hb,hT⟩:=h;have hclk:=ho.inv.clk;refine⟨λi hi=>?_,λr hr=>?_,λi hi=>ho.none_had hi,?_,?_,?_,?_,hinv⟩
 ·obtain⟨a1,a2,a3,-,-,a6⟩:=ho.img i hi
  refine⟨⟨a1,by omega⟩,⟨by omega,by omega⟩,a6,?_⟩;have h1:=hT.img;have e:D.ivs=i.2.2:=by unfold Kp.ivs;rw[hi]
  rw[e] at h1;have:=img_len (c:=i.2.1) (by omega) a6 (by omega);have h3:282*vsum i.2.2<=282*50:=Nat.mul_le_mul_left _ (by omega);omega
 ·obtain⟨a1,a2,-,a4⟩:=ho.tim r hr
  exact⟨a1,a2,a4⟩
 ·have:=fileL_len ho hT (by omega)
  have h3:280*c<=280*50:=Nat.mul_le_mul_left _ hc;omega
 ·have:=hT.img
  have:=hT.log;omega
 ·unfold Kp.ivs
  cases hi:D.img with
  |none=>exact .nil
  |some i=>exact(ho.img i hi).2.2.2.2.2.1
 ·unfold Kp.ivs
  cases hi:D.img with
  |none=>intro q hq;cases hq
  |some i=>exact λq hq=>((ho.img i hi).2.2.2.2.2.2 q hq).1
end Eg
end
end Go.Proofs.YtkejclkllgbgdaaGreat
