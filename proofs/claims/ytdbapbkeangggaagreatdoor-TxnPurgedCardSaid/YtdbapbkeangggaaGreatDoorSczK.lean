/- Texts, one behind the other, without what is not needed. -/
import Derived.Test.YtdbapbkeangggaaGreatDoorSczJ
set_option maxHeartbeats 4000000
set_option maxRecDepth 100000
attribute [local go_sem ↓] Go.wp_at_zero Go.wp_at_succ
namespace Go.Proofs.YtdbapbkeangggaaGreatDoor
section
open Go.RowKit Go.WideMaps
namespace Tx
open Mp Lk Rec
open Ch (Ver Ver.zero verK agg)
open Pw (Keeps)
open Dk (own_keeps keeps_grown)
open Dx (prK tK flat_tK infoP OwnP ScAns scNone sortedVs_any keysVs_any)
theorem seen_isSome {left:Lit->Bool}{L:List (ByteArray×Ver)}(hs:Mp.Sorted L){x:ByteArray}{y:Ver}(hg:Mp.get x L=some y)(hl:left (KeyT.lit x)=true)(k:ByteArray):(Mp.get k (Mp.seen (λz=>left z&&!z.sameKey (KeyT.lit x)) L)).isSome=true↔k=x∨(Mp.get k (Mp.seen left L)).isSome=true:=by
 rw[get_perm (seen_srt hs) (seen_srt hs) (seen_step hs hg hl)]
 by_cases h:k=x
 ·rw[if_pos h];simp[h]
 ·rw[if_neg h];simp[h]
theorem names_form {w:World}{b:Nat}{v:Value}{ks:List ByteArray}(h:w.ownsRow b 9 1 v ks.length (ks.map Value.string)):∃p c,v=.slice p ks.length c/\Row tK w p ks:=by
 rw[←flat_tK] at h;obtain⟨p,c,e,-,-,hr,-⟩:=own_form (E:=tK) h;exact⟨p,c,e,hr⟩
theorem Iter.tag {P:Program}{kt:TypeId}{val:Ver->Value}{w:World}{m:Option Nat}{r:Nat}{L:List (ByteArray×Ver)}{left:Lit->Bool}{cnt:Nat}(h:Iter P kt val w m r L left cnt):∃o,w.heap[r]?=some o/\Tx.tag o=none:=by
 cases m with
 |none =>
  obtain⟨-,a,s,c,h⟩:=h;exact⟨_,h,rfl⟩
 |some b=>exact ranges_tag h
theorem Iter.left_same {P:Program}{kt:TypeId}{val:Ver->Value}{w w':World}{m:Option Nat}{r:Nat}{L:List (ByteArray×Ver)}{left left':Lit->Bool}{cnt:Nat}(h:Iter P kt val w m r L left cnt)(h':Iter P kt val w' m r L left' cnt):iterLeft w m r=iterLeft w' m r:=by
 cases m with
 |none=>rfl
 |some b=>exact(World.ranges.left_eq h).trans (World.ranges.left_eq h').symm
theorem Row.tx {w:World}{a:Option Addr}{xs:List ByteArray}(h:Row tK w a xs){j:Nat}{x:ByteArray}(hx:xs[j]?=some x):∃b off,a=some ⟨b,off,none⟩/\b<w.heap.size/\w.cell? ⟨b,off+j,none⟩=some (.string x):=by
 obtain⟨b,off,e,hb,hc⟩:=h.at hx;exact⟨b,off,e,hb,by have:=hc 0 _ rfl;simpa [tK] using this⟩
theorem mem_keys {α:Type}{L:List (ByteArray×α)}(hs:Mp.Sorted L)(k:ByteArray):k∈L.map (·.1)↔(Mp.get k L).isSome=true:=by
 rw[List.mem_map]
 constructor
 ·rintro ⟨p,hp,rfl⟩
  rw[get_of_mem hs (e:=p.2) hp];rfl
 ·intro h
  obtain⟨v,hv⟩:=Option.isSome_iff_exists.1 h;exact⟨_,get_mem hv,rfl⟩
theorem nodup_keys {α:Type}{L:List (ByteArray×α)}(hs:Mp.Sorted L):(L.map (·.1)).Nodup:=by
 rw[List.nodup_iff_pairwise_ne,List.pairwise_map];exact List.Pairwise.imp (fun {a b} h e=>by rw[e,KeyT.irrefl] at h;cases h) hs
theorem flatM_succ {α β:Type}(f:α->List β)(T:List α)(k:Nat)(x:α)(h:T[k]?=some x):(T.take (k+1)).flatMap f=(T.take k).flatMap f++f x:=by
 rw[List.take_add_one,h,List.flatMap_append];simp
theorem foldl_succ {α β:Type}(f:β->α->β)(b:β)(T:List α)(k:Nat)(y:α)(h:T[k]?=some y):(T.take (k+1)).foldl f b=f ((T.take k).foldl f b) y:=by
 rw[List.take_add_one,h,List.foldl_append];rfl
section
variable {w:World}{base mb vb lb:Nat}{lv tv:Value}{G:GM}
theorem mscan_full (h:InM w base mb vb lb lv tv G)(hInv:Inv G.plain)(hbase:base<=w.heap.size){c:Nat}(hbd:Bd c G.plain)(hc:c<=1000){n:Int}(hn:(Lit.int .i64 n).wf=true){y:TE}(hg:Mp.get n G.live=some y)(fr tu:ByteArray)(hfr:fr.size<=1000000)(htu:tu.size<=1000000)(g1:good fr=true)(g2:good tu=true)(g3:leS fr tu=true){many:Int}(hm:1<=many/\many<=50) :
    Calls Tryz.prog 52 #[.pointer (some ⟨mb,0,none⟩),.int .i64 n,.string fr,.string tu,.int .i64 many] w λe w'=>ScAns (G.plain.scanR n y.tx fr tu many).1 w w' e/\∃F' Rd',MIs w' base mb F' Rd' (G.plain.scanR n y.tx fr tu many).2/\TurnedM w w' (G.foot mb vb lb lv tv) F' G.reads Rd':=by
  obtain⟨-,-,-,-,c4,-⟩:=h.cells
  have hl:=h.look_ok hn hg
  have hml:=h.lt
  have HG1:=Zh (λW=>good_any fr hfr W)
  have HG2:=Zh (λW=>good_any tu htu W)
  rw[g1] at HG1
  rw[g2] at HG2
  have hq:(!Op.bytesLess fr.toList tu.toList&&!fr.toList == tu.toList)=false:=by
    unfold leS at g3
    revert g3
    cases Op.bytesLess fr.toList tu.toList<;>cases fr.toList == tu.toList<;>decide
  have hlkl:G.locks.length<=1000:=Zt hbd.locks hc
  have hVG:G.vers.length<=1000000:=by
    have h1:=hbd.many
    rw[show G.plain.vers=lift VE.vs G.vers from rfl,lift_length] at h1
    exact Zt h1 (Nat.mul_le_mul hc hc)
  have hgP:Mp.get n G.plain.live=some y.tx:=by rw[show G.plain.live=lift TE.tx G.live from rfl,lift_get,hg];rfl
  have hWl:y.tx.wrote.length<=1000:=Zt (hbd.wrote (n,y.tx) (get_mem hgP)) hc
  have HVL:=Zh (λ(k:ByteArray)=>show(((Mp.get k G.vers).map VE.vs).getD []).length<=1000 from by
    have e:(Mp.get k G.vers).map VE.vs=Mp.get k G.plain.vers:=by rw[show G.plain.vers=lift VE.vs G.vers from rfl,lift_get]
    rw[e]
    cases hv:Mp.get k G.plain.vers with
    | none=>exact Nat.zero_le _
    | some vs=>exact Zt (hbd.vers _ (get_mem hv)) hc)
  have HSW:=Zh (h.t hg).srt
  have hhi0:=(h.t hg).hi0
  have hhi1:=(h.t hg).hi1
  have HH:=Zh (Za h (Za hInv (Za hgP g3)))
  obtain⟨hm1,hm2⟩:=hm
  clear h hgP g1 g2 g3
  go_enter Tryz.func52,Tryz.ntmps52
  go_wp2_with fail
  refine(HG1.out _).mono ?_
  rintro e w1 ⟨rfl,hb1⟩
  have HB1:=Zh hb1
  clear hb1 hl c4 HG1
  go_wp2_with fail
  refine(HG2.out _).mono ?_
  rintro e w2 ⟨rfl,hb2⟩
  have HB2:=Zh (bTrans HB1.out hb2)
  have h2:=HH.out.1.below HB2.out
  obtain⟨c0,-,-,-,-,-⟩:=h2.cells
  have hml2:=h2.lt
  have HS2:=Zh ((callsIn_wide (n:=5)).1 (sortedVs_any vb G.vers w2 h2.vers h2.srtV hVG))
  clear hb2 HG2 HB1 h2
  go_wp2_with fail
  refine((callsIn_wide (n:=5)).1 (keysVs_any (some vb) w2)).mono ?_
  rintro e w3 ⟨rfl,rfl⟩
  go_wp2_with fail
  refine HS2.out.mono ?_
  rintro e w3 ⟨v3,rfl,hrow3,hb3⟩
  have hnames:(G.vers.map λp=>Value.string p.1)=(G.vers.map (·.1)).map Value.string:=by rw[List.map_map];rfl
  have hlen3:G.vers.length=(G.vers.map (·.1)).length:=by simp
  rw[hnames,hlen3] at hrow3
  have hrow3:=own_base hrow3 (show w2.heap.size<=_ by simp)
  have hB23:Below w2.heap.size w2 w3:=(bAlloc (Zb w2.heap.size w2) _).trans (hb3.mono (by simp))
  obtain⟨a3,c3,rfl,-⟩:=names_form hrow3
  have h3:=HH.out.1.below (bTrans HB2.out hB23)
  have HO:=Zh (h3.t hg).ownsO
  obtain⟨-,-,-,t3⟩:=(h3.t hg).cells
  have htl3:=heap_lt (h3.t hg).obj
  have H3:=Zh (Za hrow3 hB23)
  clear hrow3 hb3 hB23 h3 HS2 hnames hlen3 c0
  go_wp2_with (first
    | (at_range;refine wpList_range_opt _ rfl _ rfl kofS Tryz.underlying57 y.wm y.tx.wrote verV rfl HO.out ?_;intro w0 hit0 hg0 hs0)
    | fail)
  go_frame
  have hbl0:Below w2.heap.size w2 w0:=H3.out.2.grown hg0 H3.out.2.size (λj hj=>by cases hj)
  have hrow0:=own_below H3.out.1 ((Zb w3.heap.size w3).grown hg0 (Zr _) (λj hj=>by cases hj))
  have hz23:=H3.out.2.size
  obtain⟨i0,hi0,hz0,hz1,hz2⟩:=info_parts infoStr
  have HI:=Zh (Za hi0 (Za hz0 (Za hz1 hz2)))
  have HSV:=Zh (Za HH.out.1.srtV (Za hVG (Za hWl hz23)))
  clear hi0 hz0 hz1 hz2
  go_loopw [16] (λs wr=>∃(left:Lit->Bool) (cnt:Nat) (ks:List ByteArray) (a:Option Addr) (cp:Nat),s=.slice a ks.length cp/\ks.length<=1001000/\Hid (Iter Tryz.prog 9 verV wr y.wm w3.heap.size y.tx.wrote left cnt/\wr.ownsRow w2.heap.size 9 1 (.slice a ks.length cp) ks.length (ks.map Value.string)/\Below w2.heap.size w2 wr/\ks.Nodup/\(∀k,k∈ks↔(Mp.get k G.vers).isSome=true∨(Mp.get k (Mp.seen left y.tx.wrote)).isSome=true)/\ks.length<=G.vers.length+(Mp.seen left y.tx.wrote).length)) (λ_ wr=>iterLeft wr y.wm w3.heap.size)
  case atStart=>exact⟨Maps.has (dat verV y.tx.wrote),_,G.vers.map (·.1),a3,c3,by rw[List.length_map],by simp;omega,Zh ⟨hit0,hrow0,hbl0,nodup_keys HSV.out.1,λk=>by rw[seen_start HSW.out,mem_keys HSV.out.1];simp[Mp.get],by simp⟩⟩
  case round =>
    obtain⟨left,cnt,ks,a,cp,rfl,hkl,HK⟩:=hrel
    obtain⟨nk,hnk⟩:∃nk,ks.length=nk:=⟨_,rfl⟩
    have HNK:=Zh hnk
    rw[hnk] at hkl ⊢
    clear hnk t3
    go_wp2_with (first
      | (at_next;refine wpList_next_more _ rfl _ rfl kofS verV y.wm w3.heap.size y.tx.wrote _ _ rfl HK.out.1 ?_ ?_)
      | fail)
    · intro hl0
      have hmem:=HK.out.2.2.2.2.1
      rw[hl0] at hmem
      have hbb:=HK.out.2.2.1
      have hsort:=sortKeys_any w2.heap.size (.slice a nk cp) ks wr (by have:=HK.out.2.1;rw[HNK.out] at this ⊢;exact this) (by rw[HNK.out];omega) hbb.size HK.out.2.2.2.1
      have HSO:=Zh hsort
      have HMB:=Zh (Za hmem hbb)
      have HKS0:=Zh (λ(k:ByteArray) (hk:k∈ks)=>show k.size<=maxLen from by
        rcases (hmem k).1 hk with h|h
        · obtain⟨v,hv⟩:=Option.isSome_iff_exists.1 h
          exact HH.out.1.okV _ (get_mem hv)
        · obtain⟨v,hv⟩:=Option.isSome_iff_exists.1 h
          have h2:=(HH.out.2.1.tx _ (get_mem HH.out.2.2.1)).own _ (get_mem hv)
          replace h2:=h2.2.2.1
          unfold good at h2
          simp only[Bool.and_eq_true,decide_eq_true_eq] at h2
          unfold maxLen
          omega)
      clear hl0 hmem hbb hsort
      go_wp2_with fail
      refine HSO.out.mono ?_
      rintro e w6 ⟨rfl,ks',hperm,hsrt,hown6,hb6⟩
      have hlk6:ks'.length=nk:=by rw[hperm.length_eq];exact HNK.out
      have hbw6:Below w2.heap.size w2 w6:=HMB.out.2.trans hb6
      obtain⟨p6,c6,he6,hrow6⟩:=names_form hown6
      rw[hlk6] at he6
      obtain⟨rfl,rfl⟩:a=p6/\cp=c6:=by injection he6 with e1 e2 e3;exact⟨e1,e3⟩
      have hpairs:=scan_pairs (S:=G.plain) y.tx fr tu HH.out.2.1.srtV hsrt (λk=>by
        rw[hperm.mem_iff,HMB.out.1 k,show G.plain.vers=lift VE.vs G.vers from rfl,lift_get,Option.isSome_map])
      have habove:=scan_above (S:=G.plain) y.tx fr tu HH.out.2.1.srtV (ks:=ks') (λk=>by
        rw[hperm.mem_iff,HMB.out.1 k,show G.plain.vers=lift VE.vs G.vers from rfl,lift_get,Option.isSome_map])
      have h6:=HH.out.1.below (bTrans HB2.out hbw6)
      have HKS:=Zh (λ(k:ByteArray) (hk:k∈ks')=>HKS0.out k (hperm.mem_iff.1 hk))
      have H6:=Zh (Za hrow6 (Za hlk6 (Za h6 (Za hbw6 (Za hpairs habove)))))
      obtain⟨j0,hj0,hz0,hz1,hz2⟩:=info_parts infoP
      have HP:=Zh (Za hj0 (Za hz0 (Za hz1 hz2)))
      clear hperm hsrt hown6 hb6 hlk6 hbw6 he6 hrow6 hpairs habove h6 hj0 hz0 hz1 hz2 HSO
      go_wp2_with fail
      go_loopw [14,15,93] (λm s i wr7=>∃(j:Nat) (Q:List PR) (a2:Option Addr) (c2:Nat) (M:Int),j<=nk/\i=.int .i64 j/\s=.slice a2 Q.length c2/\Q.length<=j/\m=.int .u64 M/\Hid (M=(ks'.take j).foldl (kab G.plain y.tx fr tu) 0/\Q=(ks'.take j).flatMap (kpair G.plain y.tx fr tu)/\OwnP wr7 w6.heap.size (.slice a2 Q.length c2) Q/\Below w6.heap.size w6 wr7)) (λ_ _ i _=>nk-(intOf i).toNat)
      case atStart=>exact⟨0,[],none,0,0,Nat.zero_le _,rfl,rfl,Zr _,rfl,Zh ⟨by simp,by simp,World.ownsRow_nil _ _ _ _,Zb _ _⟩⟩
      case round =>
        obtain⟨j,Q,a2,c2,M,hj,rfl,rfl,hQj,rfl,HQ⟩:=hrel
        obtain⟨wr7,rfl⟩:∃wr7,wr7=wr:=⟨_,rfl⟩
        by_cases hlt:j<nk
        · have hltz:(j:Int)<(nk:Int):=by omega
          obtain⟨kx,hx⟩:∃x,ks'[j]?=some x:=⟨_,Zg (by rw[H6.out.2.1];exact hlt)⟩
          obtain⟨p0,off,rfl,hbl,r0⟩:=Row.tx (H6.out.1.below HQ.out.2.2.2) hx
          have HXM:=Zh (show(ks'.take (j+1)).foldl (kab G.plain y.tx fr tu) 0=kab G.plain y.tx fr tu M kx by rw[foldl_succ _ _ _ _ _ hx,HQ.out.1])
          have HXP:=Zh (show(ks'.take (j+1)).flatMap (kpair G.plain y.tx fr tu)=Q++kpair G.plain y.tx fr tu kx by rw[flatM_succ _ _ _ _ hx,HQ.out.2.1])
          obtain⟨k,hk⟩:∃k,Q.length=k:=⟨_,rfl⟩
          have HOW:=Zh (show wr7.ownsRow w6.heap.size 111 2 (.slice a2 k c2) k (flat prK Q) by rw[←hk];exact HQ.out.2.2.1)
          rw[hk] at hQj
          have HKK:=Zh hk
          rw[hk]
          have hbk:=HQ.out.2.2.2
          have hbw:=bTrans H6.out.2.2.2.1 hbk
          have h7:=HH.out.1.below (bTrans HB2.out hbw)
          obtain⟨-,-,-,t3⟩:=(h7.t hg).cells
          have htl7:=heap_lt (h7.t hg).obj
          have HRT:=Zh (λW (hW:Below wr7.heap.size wr7 W)=>(h7.below hW).t hg)
          have HH7:=Zh (Za h7 (Za hbk hx))
          clear hx hk hbk hbw h7
          have HEN:=Zh (λ(M2:Int) (add:List PR) (k2:Nat) (hk2:k2=k+add.length) (w9:World) (a3:Option Addr) (c3:Nat) (hM:(ks'.take (j+1)).foldl (kab G.plain y.tx fr tu) 0=M2) (hP:(ks'.take (j+1)).flatMap (kpair G.plain y.tx fr tu)=Q++add) (hadd:add.length<=1) (ho:w9.ownsRow w6.heap.size 111 2 (.slice a3 k2 c3) k2 (flat prK Q++flat prK add)) (hb:Below w6.heap.size w6 w9)=>show ∃(j':Nat) (Q:List PR) (a2':Option Addr) (c2':Nat) (M':Int),j'<=nk/\Value.int .i64 ((j:Int)+1)=.int .i64 j'/\Value.slice a3 k2 c3=.slice a2' Q.length c2'/\Q.length<=j'/\Value.int .u64 M2=.int .u64 M'/\Hid (M'=(ks'.take j').foldl (kab G.plain y.tx fr tu) 0/\Q=(ks'.take j').flatMap (kpair G.plain y.tx fr tu)/\OwnP w9 w6.heap.size (.slice a2' Q.length c2') Q/\Below w6.heap.size w6 w9) from by
            have e:(Q++add).length=k2:=by rw[Zl,HKK.out,hk2]
            exact⟨j+1,Q++add,a3,c3,M2,by omega,by go_num,by rw[e],by omega,rfl,Zh ⟨hM.symm,hP.symm,by show World.ownsRow _ _ _ _ _ _ _;rw[e,flat_append];exact ho,hb⟩⟩)
          by_cases hin:inR fr tu kx=true
          · have hin2:=hin
            rw[inR_eq] at hin2
            have hq1:Op.bytesLess kx.toList fr.toList=false:=by revert hin2;cases Op.bytesLess kx.toList fr.toList<;>simp
            have hq2:(!Op.bytesLess kx.toList tu.toList&&!kx.toList == tu.toList)=false:=by
              revert hin2
              cases Op.bytesLess kx.toList fr.toList<;>cases Op.bytesLess kx.toList tu.toList<;>cases kx.toList == tu.toList<;>decide
            have hksz:kx.size<=maxLen:=HKS.out kx (Zm HH7.out.2.2)
            have hlw:=(HRT.out wr7 (Zb _ _)).look hksz
            clear hin2
            cases hgw:Mp.get kx y.tx.wrote with
            | some v =>
              rw[hgw] at hlw
              simp only[Option.getD_some,Option.isSome_some] at hlw
              obtain⟨v0,v1,v2⟩:=v
              have hkab:kab G.plain y.tx fr tu M kx=M:=by
                unfold kab
                rw[if_neg (λe=>by rw[hgw] at e;cases e.2.1)]
              have hval:G.plain.val y.tx kx=if v2=true then none else some v1:=by unfold MS.val;rw[hgw]
              have hkp:kpair G.plain y.tx fr tu kx=if v2=true then [] else [(kx,v1)]:=by
                unfold kpair
                rw[if_pos hin,hval]
                cases v2<;>rfl
              rw[hkab] at HXM
              rw[hkp] at HXP
              clear hkab hval hkp hgw hin
              cases v2
              · go_wp2_with (at_builtin;refine wpList_append_lies _ rfl _ _ 71 rfl w6.heap.size 111 j0 _ 2 32 Tryz.underlying71 HP.out.1 HP.out.2.1 HP.out.2.2.1 HP.out.2.2.2 rfl (by omega) _ k _ rfl ((HOW.out.alloc _).alloc _) ⟨wr7.heap.size+1,0,none⟩ 1 1 (prK.enc (kx,v1)) rfl rfl ?c1 (prK.one _) (by omega) ?c3 ?c4 ?c5 (wr7.heap.size+1+1) (by simp) ?_)
                case c1 =>
                  have h:=Zn (wr7.alloc (.cells #[.int .u64 v0,.string v1,.bool false] 62)) (.cells #[.string kx,.string v1] 111)
                  rw[World.size_alloc] at h
                  exact World.news_of_block (t:=111) (fr:=(0,0)) h
                case c3=>unfold maxLen;omega
                case c4=>omega
                case c5=>simp;have:=HH7.out.2.1.size;omega
                intro g cap w9 ho9 hg9 hat9 hlt9
                have HR9:=Zh (HEN.out M [(kx,v1)] (k+1) rfl w9 _ cap HXM.out HXP.out (Zr _) (by rw[flat_one];exact ho9) ((bAlloc (bAlloc HH7.out.2.1 _) _).grown hg9 (by simp;have:=HH7.out.2.1.size;omega) (λb hb=>(HOW.out.lt b hb).1)))
                clear ho9 hg9 hat9 hlt9
                go_wp2
                refine⟨?_,by simp[intOf];omega⟩
                first
                  | exact HR9.out
                  | (all_goals (repeat (apply Exists.intro))
                     exact⟨HR9.out,rfl⟩)
              · have HR9:=Zh (HEN.out M [] k rfl _ a2 c2 HXM.out HXP.out (by simp) (by simpa [flat] using (HOW.out.alloc (.cells #[.int .u64 v0,.string v1,.bool true] 62))) (bAlloc HH7.out.2.1 _))
                go_wp2
                refine⟨?_,by simp[intOf];omega⟩
                first
                  | exact HR9.out
                  | (all_goals (repeat (apply Exists.intro))
                     exact⟨HR9.out,rfl⟩)
            | none =>
              rw[hgw] at hlw
              simp only[Option.getD_none,Option.isSome_none] at hlw
              have hA:=at_any (HH7.out.1.below (bAlloc (Zb _ _) (.cells #[.int .u64 0,.string ⟨#[]⟩,.bool false] 62))) (k:=kx) hksz y.tx.hi (HVL.out kx)
              obtain⟨⟨⟨u0,u1,u2⟩,b⟩,hr⟩:∃r,G.plain.at kx y.tx.hi=r:=⟨_,rfl⟩
              rw[hr] at hA
              have hkab:kab G.plain y.tx fr tu M kx=if b=true then max M u0 else M:=by
                unfold kab
                rw[hr]
                cases b
                · rw[if_neg (λe=>by cases e.2.2)];rfl
                · rw[if_pos ⟨hin,hgw,rfl⟩];rfl
              have hval:G.plain.val y.tx kx=if b=true/\u2=false then some u1 else none:=by unfold MS.val;rw[hgw,hr]
              have hkp:kpair G.plain y.tx fr tu kx=if b=true/\u2=false then [(kx,u1)] else []:=by
                unfold kpair
                rw[if_pos hin,hval]
                cases b<;>cases u2<;>rfl
              rw[hkab] at HXM
              rw[hkp] at HXP
              have HA:=Zh hA
              obtain⟨-,-,t2,-⟩:=(HRT.out wr7 (Zb _ _)).cells
              clear hkab hval hkp hgw hin hA hr
              go_wp2_with fail
              refine HA.out.mono ?_
              rintro e w8 ⟨rfl,hb8⟩
              have hX:=(hb8.block wr7.heap.size (by simp)).trans (Zn wr7 _)
              have x0:w8.cell? ⟨wr7.heap.size,0,none⟩=some (.int .u64 0):=by rw[Zc hX];rfl
              have x1:w8.cell? ⟨wr7.heap.size,1,none⟩=some (.string ⟨#[]⟩):=by rw[Zc hX];rfl
              have x2:w8.cell? ⟨wr7.heap.size,2,none⟩=some (.bool false):=by rw[Zc hX];rfl
              have f0:=obj_frozen hX 0
              have f1:=obj_frozen hX 1
              have f2:=obj_frozen hX 2
              have hXl:=heap_lt hX
              have hb68:=bTrans (bAlloc HH7.out.2.1 _) hb8
              have h67:=HH7.out.2.1.size
              have hb9:∀u2,Below w6.heap.size w6 (((w8.setCell ⟨wr7.heap.size,0,none⟩ (.int .u64 u0)).setCell ⟨wr7.heap.size,1,none⟩ (.string u1)).setCell ⟨wr7.heap.size,2,none⟩ (.bool u2)):=λ_=>bSet (bSet (bSet hb68 h67 _) h67 _) h67 _
              have hk9:∀u2,Keeps w8 (((w8.setCell ⟨wr7.heap.size,0,none⟩ (.int .u64 u0)).setCell ⟨wr7.heap.size,1,none⟩ (.string u1)).setCell ⟨wr7.heap.size,2,none⟩ (.bool u2)) [wr7.heap.size]:=λ_=>(((Keeps.refl w8 [wr7.heap.size]).set (by simp) 0 _).set (by simp) 1 _).set (by simp) 2 _
              have how8:=own_below (HOW.out.alloc _) hb8
              have how9:=λu2=>own_keeps how8 (hk9 u2) (λb hb=>by
                have:=(HOW.out.lt b hb).2
                simp
                omega)
              have hs8:∀u2:Bool,(((w8.setCell ⟨wr7.heap.size,0,none⟩ (.int .u64 u0)).setCell ⟨wr7.heap.size,1,none⟩ (.string u1)).setCell ⟨wr7.heap.size,2,none⟩ (.bool u2)).heap.size=w8.heap.size:=λ_=>by simp
              have HZ:=Zh (Za hb9 (Za how9 (Za hs8 hb68.size)))
              clear hb68 h67 hb9 hk9 how8 how9 hs8 hX
              cases b
              · have HXM':=Zh (show(ks'.take (j+1)).foldl (kab G.plain y.tx fr tu) 0=M from HXM.out)
                have HR9:=Zh (HEN.out M [] k rfl _ a2 c2 HXM.out HXP.out (by simp) (by simpa [flat] using HZ.out.2.1 u2) (HZ.out.1 u2))
                go_wp2
                refine⟨?_,by simp[intOf];omega⟩
                first
                  | exact HR9.out
                  | (all_goals (repeat (apply Exists.intro))
                     exact⟨HR9.out,rfl⟩)
              · cases u2
                · go_wp2_with (at_builtin;refine wpList_append_lies _ rfl _ _ 71 rfl w6.heap.size 111 j0 _ 2 32 Tryz.underlying71 HP.out.1 HP.out.2.1 HP.out.2.2.1 HP.out.2.2.2 rfl (by omega) _ k _ rfl ((HZ.out.2.1 false).alloc _) ⟨w8.heap.size,0,none⟩ 1 1 (prK.enc (kx,u1)) rfl rfl ?c1 (prK.one _) (by omega) ?c3 ?c4 ?c5 (w8.heap.size+1) (by simp) ?_)
                  case c1 =>
                    have h:=Zn (((w8.setCell ⟨wr7.heap.size,0,none⟩ (.int .u64 u0)).setCell ⟨wr7.heap.size,1,none⟩ (.string u1)).setCell ⟨wr7.heap.size,2,none⟩ (.bool false)) (.cells #[.string kx,.string u1] 111)
                    rw[HZ.out.2.2.1] at h
                    exact World.news_of_block (t:=111) (fr:=(0,0)) h
                  case c3=>unfold maxLen;omega
                  case c4=>omega
                  case c5=>simp;have:=HZ.out.2.2.2;omega
                  intro g cap w9 ho9 hg9 hat9 hlt9
                  have HR9:=Zh (HEN.out (max M u0) [(kx,u1)] (k+1) rfl w9 _ cap HXM.out HXP.out (Zr _) (by rw[flat_one];exact ho9) ((bAlloc (HZ.out.1 false) _).grown hg9 (by simp;have:=HZ.out.2.2.2;omega) (λb hb=>(HOW.out.lt b hb).1)))
                  clear ho9 hg9 hat9 hlt9
                  go_wp2
                  refine⟨?_,by simp[intOf];omega⟩
                  first
                    | exact HR9.out
                    | (all_goals (repeat (apply Exists.intro))
                       exact⟨HR9.out,rfl⟩)
                · have HR9:=Zh (HEN.out (max M u0) [] k rfl _ a2 c2 HXM.out HXP.out (by simp) (by simpa [flat] using HZ.out.2.1 true) (HZ.out.1 true))
                  go_wp2
                  refine⟨?_,by simp[intOf];omega⟩
                  first
                    | exact HR9.out
                    | (all_goals (repeat (apply Exists.intro))
                       exact⟨HR9.out,rfl⟩)
          · have hin2:inR fr tu kx=false:=by simpa using hin
            have hkab:kab G.plain y.tx fr tu M kx=M:=by
              unfold kab
              rw[if_neg (λe=>hin e.1)]
            have hkp:kpair G.plain y.tx fr tu kx=[]:=by
              unfold kpair
              rw[if_neg hin]
            rw[hkab] at HXM
            rw[hkp,List.append_nil] at HXP
            have HF:=Zh (show ∃(j':Nat) (Q:List PR) (a2':Option Addr) (c2':Nat) (M':Int),j'<=nk/\Value.int .i64 ((j:Int)+1)=.int .i64 j'/\Value.slice a2 k c2=.slice a2' Q.length c2'/\Q.length<=j'/\Value.int .u64 M=.int .u64 M'/\Hid (M'=(ks'.take j').foldl (kab G.plain y.tx fr tu) 0/\Q=(ks'.take j').flatMap (kpair G.plain y.tx fr tu)/\OwnP wr7 w6.heap.size (.slice a2' Q.length c2') Q/\Below w6.heap.size w6 wr7) from
              ⟨j+1,Q,a2,c2,M,by omega,by go_num,by rw[HKK.out],by have:=HKK.out;omega,rfl,Zh ⟨HXM.out.symm,HXP.out.symm,by show World.ownsRow _ _ _ _ _ _ _;rw[HKK.out];exact HOW.out,HH7.out.2.1⟩⟩)
            clear hkab hkp
            rw[inR_eq] at hin2
            cases hq1:Op.bytesLess kx.toList fr.toList with
            | true =>
              clear hin2
              go_wp2
              exact⟨HF.out,by simp[intOf];omega⟩
            | false =>
              have hq2:(!Op.bytesLess kx.toList tu.toList&&!kx.toList == tu.toList)=true:=by
                rw[hq1] at hin2
                revert hin2
                cases Op.bytesLess kx.toList tu.toList<;>cases kx.toList == tu.toList<;>decide
              clear hin2
              go_wp2
              exact⟨HF.out,by simp[intOf];omega⟩
        · have hjn:j=nk:=by omega
          subst hjn
          have hall:ks'.take j=ks':=List.take_of_length_le (by rw[H6.out.2.1];exact Zr _)
          have hQP:Q=G.plain.pairs y.tx fr tu:=by rw[HQ.out.2.1,hall,H6.out.2.2.2.2.1]
          have hMA:M=G.plain.above y.tx fr tu:=by rw[HQ.out.1,hall,H6.out.2.2.2.2.2]
          have hbz:=bTrans HB2.out (bTrans H6.out.2.2.2.1 HQ.out.2.2.2)
          have hz:=HH.out.1.below hbz
          obtain⟨z0,-,z2,-⟩:=(hz.t hg).cells
          have htlz:=heap_lt (hz.t hg).obj
          obtain⟨pq,cq,eq,hnc,-,hrowq,-⟩:=own_form (E:=prK) HQ.out.2.2.1
          obtain⟨rfl,rfl⟩:a2=pq/\c2=cq:=by injection eq with e1 e2 e3;exact⟨e1,e3⟩
          have hlo:∀p,a2=some p->w6.heap.size<=p.block:=λp e=>(HQ.out.2.2.1.lt p.block (by rw[e];rfl)).1
          have hw6:w.heap.size<=w6.heap.size:=(bTrans HB2.out H6.out.2.2.2.1).size
          have hM0:0<=M:=by rw[hMA];exact above_pos y.tx fr tu G.plain
          obtain⟨q,hq⟩:∃q,Q.length=q:=⟨_,rfl⟩
          have HQQ:=Zh (Za hQP (Za hMA (Za hq (Za hrowq (Za hlo hw6)))))
          have HMN:=Zh (show(min many (q:Int)).toNat=((G.plain.pairs y.tx fr tu).take many.toNat).length by rw[List.length_take,←hQP,hq];omega)
          have hmn0:0<=min many (q:Int):=by omega
          have hmnq:min many (q:Int)<=q:=by omega
          rw[hq] at hnc hQj ⊢
          have HSEE:=Zh (see_is hz (Zt hbase hbz.size) hn hg M hM0 hlkl (0,fr,tu,1,y.tx.hi))
          have HZ:=Zh hbz
          have HSTAY:=Zh (show ∃F' Rd',MIs wr7 base mb F' Rd' G.plain/\TurnedM w wr7 (G.foot mb vb lb lv tv) F' G.reads Rd' from by
            have hMI:MIs w base mb (G.foot mb vb lb lv tv) G.reads G.plain:=⟨vb,lb,lv,tv,G,HH.out.1,rfl,rfl,rfl⟩
            exact⟨_,_,(hMI.below hbz).1,(hMI.below hbz).2⟩)
          clear hall hQP hMA hbz hz eq hrowq hlo hw6 hq
          cases hs:y.tx.snap with
          | true =>
            rw[hs] at z0
            have hres:G.plain.scanR n y.tx fr tu many=(((G.plain.pairs y.tx fr tu).take many.toNat,0),G.plain):=by unfold MS.scanR;rw[if_pos hs]
            have HRES:=Zh hres
            clear hres HSEE
            go_wp2
            refine Zp (v:=.tuple #[.slice a2 ((G.plain.pairs y.tx fr tu).take many.toNat).length c2,.int .i64 0]) (by simp[results,Tryz.results52,go_sem];rw[HMN.out,List.length_take]) rfl ?_
            rw[HRES.out]
            obtain⟨hQP,hMA,hq,hrowq,hlo,hw6⟩:=HQQ.out
            exact⟨⟨a2,c2,rfl,by rw[←hQP];exact hrowq.take _,λp e=>Zt hw6 (hlo p e)⟩,HSTAY.out⟩
          | false =>
            rw[hs] at z0
            by_cases hcf:y.tx.hi<=M
            · have hsee:(G.plain.see n y.tx M fr tu 1 y.tx.hi)=(7,G.plain.drop n):=by unfold MS.see;rw[if_pos hcf]
              have hres:G.plain.scanR n y.tx fr tu many=(([],7),G.plain.drop n):=by
                unfold MS.scanR
                rw[if_neg (by rw[hs];simp),←HQQ.out.2.1,hsee,if_neg (by simp)]
              have HRES:=Zh hres
              simp only[] at HSEE
              rw[hsee] at HSEE
              clear hsee hres hcf
              go_wp2_with fail
              refine HSEE.out.mono ?_
              rintro e w9 ⟨rfl,F',Rd',hM9,hT9⟩
              have H9:=Zh (Za hM9 hT9)
              clear hM9 hT9 HSEE
              go_wp2
              refine Zp (v:=.tuple #[.slice none 0 0,.int .i64 7]) (by simp[results,Tryz.results52,go_sem]) rfl ?_
              rw[HRES.out]
              obtain⟨hQP,hMA,hq,hrowq,hlo,hw6⟩:=HQQ.out
              obtain⟨hM9,hT9⟩:=H9.out
              exact⟨scNone 7 w w9,⟨F',Rd',hM9,(Keeps.of_below _ HZ.out).trans hT9.keeps,λb hb=>(hT9.foot b hb).imp id (λh=>Zt HZ.out.size h),λb hb=>(hT9.reads b hb).imp id (λh=>Zt HZ.out.size h)⟩⟩
            · have hsee1:(G.plain.see n y.tx M fr tu 1 y.tx.hi).1=0:=by unfold MS.see;rw[if_neg hcf]
              have hres:G.plain.scanR n y.tx fr tu many=(((G.plain.pairs y.tx fr tu).take many.toNat,0),(G.plain.see n y.tx M fr tu 1 y.tx.hi).2):=by
                unfold MS.scanR
                rw[if_neg (by rw[hs];simp),←HQQ.out.2.1,hsee1,if_pos rfl]
              have HRES:=Zh hres
              simp only[] at HSEE
              rw[hsee1] at HSEE
              clear hsee1 hres hcf
              go_wp2_with fail
              refine HSEE.out.mono ?_
              rintro e w9 ⟨rfl,F',Rd',hM9,hT9⟩
              have H9:=Zh (Za hM9 hT9)
              clear hM9 hT9 HSEE
              go_wp2
              refine Zp (v:=.tuple #[.slice a2 ((G.plain.pairs y.tx fr tu).take many.toNat).length c2,.int .i64 0]) (by simp[results,Tryz.results52,go_sem];rw[HMN.out,List.length_take]) rfl ?_
              rw[HRES.out]
              obtain⟨hQP,hMA,hq,hrowq,hlo,hw6⟩:=HQQ.out
              obtain⟨hM9,hT9⟩:=H9.out
              refine⟨⟨a2,c2,rfl,?_,λp e=>Zt hw6 (hlo p e)⟩,⟨F',Rd',hM9,(Keeps.of_below _ HZ.out).trans hT9.keeps,λb hb=>(hT9.foot b hb).imp id (λh=>Zt HZ.out.size h),λb hb=>(hT9.reads b hb).imp id (λh=>Zt HZ.out.size h)⟩⟩
              rw[←hQP]
              refine(row_keeps hrowq hT9.keeps λb o v e hb=>?_).take _
              have h1:=HH.out.1.foot_lt b hb
              have h2:=hlo _ e
              simp only[] at h2
              omega
    · intro kx yv w5 cnt2 hgx hok hlx hrg2 hlt2 hg2 hs2 hen
      have htag:=Iter.tag HK.out.1
      have hb5:Below w2.heap.size w2 w5:=HK.out.2.2.1.grown hg2 HK.out.2.2.1.size (λj hj=>by
        injection hj with hj
        have:=HSV.out.2.2.2
        omega)
      have hown5:=own_keeps HK.out.2.1 (keeps_grown hg2) (λb hb hb'=>by
        rw[List.mem_singleton] at hb'
        subst hb'
        obtain⟨o,ho,tg,-⟩:=row_obj HK.out.2.1 hb
        obtain⟨o2,ho2,tg2⟩:=htag
        exact ne_tag ho ho2 (by rw[tg,tg2];simp) rfl)
      have h5:=HH.out.1.below (bTrans HB2.out hb5)
      obtain⟨o0,-,-,-,-,-⟩:=h5.cells
      have hml5:=h5.lt
      have hl5:=h5.vers.look_ok kofS Tryz.underlying37 (Tryz.zeroValue49 w5) (x:=kx) hok
      obtain⟨v0,v1,v2⟩:=yv
      simp only[KeyT.key,verV,agg] at hen hl5
      have hsome:=seen_isSome HSW.out hgx hlx
      have hsl:=(seen_step HSW.out hgx hlx).length_eq
      rw[List.length_cons] at hsl
      have hsn:=seen_none (L:=y.tx.wrote) hlx
      have hsm:=seen_len (λz=>left z&&!z.sameKey (KeyT.lit kx)) y.tx.wrote
      have hkn:=HNK.out
      cases hgv:Mp.get kx G.vers with
      | some e5 =>
        rw[hgv] at hl5
        have HF:=Zh (show ∃(left:Lit->Bool) (cnt:Nat) (ks':List ByteArray) (a':Option Addr) (cp':Nat),Value.slice a nk cp=.slice a' ks'.length cp'/\ks'.length<=1001000/\Hid (Iter Tryz.prog 9 verV w5 y.wm w3.heap.size y.tx.wrote left cnt/\w5.ownsRow w2.heap.size 9 1 (.slice a' ks'.length cp') ks'.length (ks'.map Value.string)/\Below w2.heap.size w2 w5/\ks'.Nodup/\(∀k,k∈ks'↔(Mp.get k G.vers).isSome=true∨(Mp.get k (Mp.seen left y.tx.wrote)).isSome=true)/\ks'.length<=G.vers.length+(Mp.seen left y.tx.wrote).length) from
          ⟨_,cnt2,ks,a,cp,by rw[hkn],by omega,Zh ⟨hrg2,hown5,hb5,HK.out.2.2.2.1,λk=>by
            rw[hsome k,HK.out.2.2.2.2.1 k]
            constructor
            · rintro (h|h)
              · exact .inl h
              · exact .inr (.inr h)
            · rintro (h|h|h)
              · exact .inl h
              · rw[h,hgv];exact .inl rfl
              · exact .inr h,by have:=HK.out.2.2.2.2.2;omega⟩⟩)
        have HME:=Zh (show iterLeft w5 y.wm w3.heap.size<iterLeft wr y.wm w3.heap.size from hlt2)
        clear htag hb5 hown5 h5 hsome hsl hsn hsm hkn hgv hgx hok hlx hrg2 hlt2 hg2 hs2
        go_wp2
        exact⟨HF.out,HME.out⟩
      | none =>
        rw[hgv] at hl5
        have HF:=Zh (λ(w7:World) (g cap:Nat) (hit7:Iter Tryz.prog 9 verV w7 y.wm w3.heap.size y.tx.wrote (λz=>left z&&!z.sameKey (KeyT.lit kx)) cnt2) (ho7:w7.ownsRow w2.heap.size 9 1 (.slice (some ⟨g,0,none⟩) (nk+1) cap) (nk+1) (ks.map Value.string++[Value.string kx])) (hb7:Below w2.heap.size w2 w7)=>show ∃(left:Lit->Bool) (cnt:Nat) (ks':List ByteArray) (a':Option Addr) (cp':Nat),Value.slice (some ⟨g,0,none⟩) (nk+1) cap=.slice a' ks'.length cp'/\ks'.length<=1001000/\Hid (Iter Tryz.prog 9 verV w7 y.wm w3.heap.size y.tx.wrote left cnt/\w7.ownsRow w2.heap.size 9 1 (.slice a' ks'.length cp') ks'.length (ks'.map Value.string)/\Below w2.heap.size w2 w7/\ks'.Nodup/\(∀k,k∈ks'↔(Mp.get k G.vers).isSome=true∨(Mp.get k (Mp.seen left y.tx.wrote)).isSome=true)/\ks'.length<=G.vers.length+(Mp.seen left y.tx.wrote).length) from by
          have e:(ks++[kx]).length=nk+1:=by rw[Zl,List.length_singleton,hkn]
          have h1:=HK.out.2.2.2.2.2
          have h2:=HSV.out.2.1
          have h3:=HSV.out.2.2.1
          refine⟨_,cnt2,ks++[kx],some ⟨g,0,none⟩,cap,by rw[e],by omega,Zh ⟨hit7,by rw[e,List.map_append];exact ho7,hb7,?_,λk=>?_,by omega⟩⟩
          · rw[List.nodup_append]
            refine⟨HK.out.2.2.2.1,by simp,λx hx z hz e2=>?_⟩
            rw[List.mem_singleton] at hz
            rw[e2,hz,HK.out.2.2.2.2.1 kx,hgv,hsn] at hx
            simp at hx
          · rw[List.mem_append,List.mem_singleton,hsome k,HK.out.2.2.2.2.1 k]
            constructor
            · rintro ((h|h)|h)
              · exact .inl h
              · exact .inr (.inr h)
              · exact .inr (.inl h)
            · rintro (h|h|h)
              · exact .inl (.inl h)
              · exact .inr h
              · exact .inl (.inr h))
        have HRG:=Zh (Za hrg2 (Za hb5 hown5))
        have HME:=Zh (λ(w7:World) (hit7:Iter Tryz.prog 9 verV w7 y.wm w3.heap.size y.tx.wrote (λz=>left z&&!z.sameKey (KeyT.lit kx)) cnt2)=>show iterLeft w7 y.wm w3.heap.size<iterLeft wr y.wm w3.heap.size from by rw[Iter.left_same hit7 hrg2];exact hlt2)
        rw[hkn] at hown5
        have HOW:=Zh hown5
        clear htag hb5 hown5 h5 hsome hsl hsn hsm hkn hgv hgx hok hlx hrg2 hlt2 hg2 hs2
        go_wp2_with (at_builtin;refine wpList_append_lies _ rfl _ _ 96 rfl w2.heap.size 9 i0 _ 1 16 Tryz.underlying96 HI.out.1 HI.out.2.1 HI.out.2.2.1 HI.out.2.2.2 rfl (by omega) _ nk _ rfl (HOW.out.alloc _) ⟨w5.heap.size,0,none⟩ 1 1 [Value.string kx] rfl rfl (World.news_of_block (Zn w5 _)) (by intro u hu;simp at hu;subst hu;rfl) (by omega) (by unfold maxLen;omega) (by omega) (by simp;have:=HRG.out.2.1.size;omega) (w5.heap.size+1) (by simp) ?_)
        intro g cap w7 ho7 hg7 hat7 hlt7
        have hit6:=HRG.out.1.below (bAlloc (Zb w5.heap.size w5) (.cells #[.string kx] 9))
        have hit7:=hit6.grown hg7 (λb hb=>by
          obtain⟨o,ho,tg,-⟩:=row_obj (HOW.out.alloc (.cells #[.string kx] 9)) hb
          cases o with
          | cells cur T m=>exact⟨cur,T,m,ho⟩
          | _=>simp[Tx.tag] at tg)
        have hb7:Below w2.heap.size w2 w7:=(bAlloc HRG.out.2.1 _).grown hg7 (by simp;have:=HRG.out.2.1.size;omega) (λb hb=>(HOW.out.lt b hb).1)
        have HR7:=Zh (Za (HF.out w7 g cap hit7 ho7 hb7) (HME.out w7 hit7))
        clear ho7 hg7 hat7 hlt7 hit6 hit7 hb7
        go_wp2
        exact HR7.out
end
end Tx
end
section
open Go.RowKit Go.WideMaps
namespace Tx
open Mp Lk Rec
open Ch (Ver Ver.zero verK agg)
open Pw (Keeps)
open Dx (ScAns scNone)
theorem mpurge_is {w:World}{base mb:Nat}{F Rd:List Nat}{S:MS}(h:MIs w base mb F Rd S)(hInv:Inv S)(hbase:base<=w.heap.size){c:Nat}(hbd:Bd c S)(hc:c<=1000){t:Int}(h0:0<=t) :
  Calls Tryz.prog 58 #[.pointer (some ⟨mb,0,none⟩),.int .u64 t] w λe w'=>e=.returned (.tuple #[.int .i64 (S.purge t).1.1,.int .i64 (S.purge t).1.2])/\∃F' Rd',MIs w' base mb F' Rd' (S.purge t).2/\TurnedM w w' F F' Rd Rd':=by
 have hM:=h;obtain⟨vb,lb,lv,tv,G,h,rfl,rfl,rfl⟩:=h;unfold MS.purge
 by_cases ht:G.plain.least<t
 ·rw[if_pos ht]
  refine(mpurge_no h ht).mono ?_;rintro e w' ⟨rfl,hb⟩;exact⟨rfl,_,_,(hM.below hb).1,(hM.below hb).2⟩
 ·rw[if_neg ht]
  exact mpurge_done h hInv hbase hbd hc (by omega) h0
theorem mscan_is {w:World}{base mb:Nat}{F Rd:List Nat}{S:MS}(h:MIs w base mb F Rd S)(hInv:Inv S)(hbase:base<=w.heap.size){c:Nat}(hbd:Bd c S)(hc:c<=1000){n:Int}(hn:(Lit.int .i64 n).wf=true)(fr tu:ByteArray)(hfr:fr.size<=1000000)(htu:tu.size<=1000000)(many:Int) :
  Calls Tryz.prog 52 #[.pointer (some ⟨mb,0,none⟩),.int .i64 n,.string fr,.string tu,.int .i64 many] w λe w'=>ScAns (S.scan n fr tu many).1 w w' e/\∃F' Rd',MIs w' base mb F' Rd' (S.scan n fr tu many).2/\TurnedM w w' F F' Rd Rd':=by
 have hM:=h;obtain⟨vb,lb,lv,tv,G,h,rfl,rfl,rfl⟩:=h;have hS:Mp.get n G.plain.live=(Mp.get n G.live).map TE.tx:=lift_get _ _ _;have hstay:∀w',Below w.heap.size w w'->∃F' Rd',MIs w' base mb F' Rd' G.plain/\TurnedM w w' (G.foot mb vb lb lv tv) F' G.reads Rd':=λw' hb=>⟨_,_,(hM.below hb).1,(hM.below hb).2⟩
 unfold MS.scan
 cases hg:Mp.get n G.live with
 |none =>
  rw[hg] at hS;rw[hS];refine(mscan_none h hn hg fr tu many).mono ?_;rintro e w' ⟨rfl,hb⟩;exact⟨scNone 4 _ _,hstay w' hb⟩
 |some y =>
  rw[hg] at hS;rw[hS];simp only[Option.map_some]
  by_cases hk:good fr=false∨good tu=false∨leS fr tu=false
  ·rw[if_pos hk]
   refine(mscan_key h hn hg fr tu hfr htu hk many).mono ?_;rintro e w' ⟨rfl,hb⟩;exact⟨scNone 2 _ _,hstay w' hb⟩
  ·rw[if_neg hk]
   have g1:good fr=true:=by cases hh:good fr with|true=>rfl|false=>exact absurd (.inl hh) hk
   have g2:good tu=true:=by cases hh:good tu with|true=>rfl|false=>exact absurd (.inr (.inl hh)) hk
   have g3:leS fr tu=true:=by cases hh:leS fr tu with|true=>rfl|false=>exact absurd (.inr (.inr hh)) hk
   by_cases hm:many<1∨50<many
   ·rw[if_pos hm]
    refine(mscan_many h hn hg fr tu hfr htu g1 g2 g3 hm).mono ?_;rintro e w' ⟨rfl,hb⟩;exact⟨scNone 1 _ _,hstay w' hb⟩
   ·rw[if_neg hm]
    exact mscan_full h hInv hbase hbd hc hn hg fr tu hfr htu g1 g2 g3 (by omega)
end Tx
end
section
open Go.RowKit Go.WideMaps
namespace Tx
open Mp Lk Rec
open Ch (Ver Ver.zero verK agg)
open Pw (Keeps)
open Dk (own_keeps keeps_grown)
section
variable {w:World}{base mb vb lb:Nat}{lv tv:Value}{G:GM}{width:Int}
theorem begins_wide (hw:width=0∨1000<width) :
  Calls Tryz.prog 49 #[.pointer (some ⟨mb,0,none⟩),.int .u64 width] w λe w'=>e=.returned (.tuple #[.int .i64 0,.int .i64 1])/\Below w.heap.size w w':=by
 rcases hw with rfl|hw
 ·go_enter Tryz.func49,Tryz.ntmps49
  go_wp2
  refine Zp (v:=.tuple #[_,_]) (by simp[results,Tryz.results49,go_sem]) rfl ⟨rfl,Zb _ _⟩
 ·have h0:¬width=0:=by omega
  go_enter Tryz.func49,Tryz.ntmps49
  go_wp2
  refine Zp (v:=.tuple #[_,_]) (by simp[results,Tryz.results49,go_sem]) rfl ⟨rfl,Zb _ _⟩
theorem begins_late (h:InM w base mb vb lb lv tv G)(w0:0<width)(w1:width<=1000)(hc:1099511627776<=G.clock) :
  Calls Tryz.prog 49 #[.pointer (some ⟨mb,0,none⟩),.int .u64 width] w λe w'=>e=.returned (.tuple #[.int .i64 0,.int .i64 6])/\Below w.heap.size w w':=by
 obtain⟨-,-,c2,-,-,-⟩:=h.cells;have hw0:¬width=0:=by omega
 have hw1:¬(1000:Int)<width:=by omega
 clear h
 go_enter Tryz.func49,Tryz.ntmps49
 go_wp2
 refine Zp (v:=.tuple #[_,_]) (by simp[results,Tryz.results49,go_sem]) rfl ⟨rfl,Zb _ _⟩
theorem begins_full (h:InM w base mb vb lb lv tv G)(w0:0<width)(w1:width<=1000)(hc:G.clock<1099511627776)(hl:16<=G.live.length) :
  Calls Tryz.prog 49 #[.pointer (some ⟨mb,0,none⟩),.int .u64 width] w λe w'=>e=.returned (.tuple #[.int .i64 0,.int .i64 5])/\Below w.heap.size w w':=by
 have H:=Zh h;obtain⟨-,-,c2,-,-,-⟩:=h.cells;have hclk:=h.clk;have hml:=h.lt;have hw0:¬width=0:=by omega
 have hw1:¬(1000:Int)<width:=by omega
 have hcz:¬(1099511627776:Int)<=G.clock:=by omega
 clear h
 go_enter Tryz.func49,Tryz.ntmps49
 go_wp2_with fail
 have hmm:=@run_makeMap Tryz.prog;have hd2:w.drew.cell? ⟨mb,2,none⟩=some (.int .u64 G.clock):=c2;have e1:IntKind.u64.wrap (G.clock+1)=G.clock+1:=by rw[IntKind.wrap_u64];omega
 obtain⟨hi,e2⟩:∃hi,min (IntKind.u64.wrap (G.clock+width)) 1099511627776=hi:=⟨_,rfl⟩;have HBe:=Zh (λ(W:World) (hW:Below w.heap.size w W) (x:Value)=>begin_full (H.out.below hW) hl x)
 go_region_held3 (λw'=>w'.cell? ⟨mb,2,none⟩=some (.int .u64 G.clock)) (first|exact hc8|exact c2|(simp[go_sem, *];done)) (first|(go_at_call 96;refine(HBe.out _ (Below.drew (bAlloc (bAlloc (Zb _ _) _) _)) _).mono ?_;rintro e w8 ⟨rfl,hK0⟩;have HK:=Zh (bTrans (Below.drew (bAlloc (bAlloc (Zb _ _) _) _)) hK0);clear hK0;have hc8:w8.cell? ⟨mb,2,none⟩=some (.int .u64 G.clock):=(H.out.below HK.out).cells.2.2.1))
 all_goals
  go_wp2
  refine Zp (v:=.tuple #[_,_]) (by simp[results,Tryz.results49,go_sem]) rfl ⟨rfl,HK.out⟩
end
end Tx
end
end Go.Proofs.YtdbapbkeangggaaGreatDoor
