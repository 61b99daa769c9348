/- Texts, one behind the other, without what is not needed. -/
import Derived.Test.YtdbapbkeangggaaGreatDoorScN
import Derived.Deep.RegionLaw
import Derived.Shelf.SlicesQ.Equal
set_option maxHeartbeats 4000000
set_option maxRecDepth 100000
attribute [local go_sem ↓] Go.wp_at_zero Go.wp_at_succ
namespace Go.Proofs.YtdbapbkeangggaaGreatDoor
section
open Go.RowKit Go.WideMaps
namespace Tx
open Mp Lk Rec
open Ch (Ver Ver.zero verK agg)
open Pw (Keeps)
open Dk (own_keeps keeps_grown)
theorem InM.foot_lt {w:World}{base mb vb lb:Nat}{lv tv:Value}{G:GM}(h:InM w base mb vb lb lv tv G):∀b∈G.foot mb vb lb lv tv,b<w.heap.size:=λb hb=>by
 rcases mem_foot.1 hb with rfl|rfl|rfl|hb|hb|⟨p,hp,rfl|hb⟩
 ·exact heap_lt h.obj
 ·exact Owns.lt h.vers
 ·exact Owns.lt h.live
 ·obtain⟨o,ho,-,-⟩:=row_obj h.locks hb
  exact heap_lt ho
 ·obtain⟨o,ho,-,-⟩:=row_obj h.taken hb
  exact heap_lt ho
 ·exact heap_lt (h.ts p hp).obj
 ·exact Owns.lt ((h.ts p hp).wro b hb).1
theorem InT.fresh {w:World}{base:Nat}{lo hi:Int}(hb:base<=w.heap.size)(h0:1<=lo)(h1:lo<=1099511627777)(h2:0<=hi)(h3:hi<=1099511627776) :
  InT ((w.alloc (.map #[] 0)).alloc (.cells #[.bool false,.int .u64 lo,.int .u64 hi,.map (some w.heap.size)] 59)) base ⟨w.heap.size+1,some w.heap.size,⟨false,lo,hi,[]⟩⟩ where
 obj:=by
  have:=heap_alloc_new (w.alloc (.map #[] 0)) (.cells #[.bool false,.int .u64 lo,.int .u64 hi,.map (some w.heap.size)] 59)
  rwa [World.size_alloc] at this
 wro m hm:=by
  injection hm with hm;subst hm;exact⟨Owns.keeps (Owns.made Tryz.prog 9 verV w) (Keeps.of_below [] (bAlloc (Zb _ _) _)) (by simp),hb⟩
 non h:=rfl
 snp:=rfl
 srt:=List.Pairwise.nil
 lowT:=by show base<=w.heap.size+1;omega
 lo0:=by show 0<=lo;omega
 lo1:=h1
 hi0:=h2
 hi1:=h3
 loW _:=h0
theorem InT.freshS {w:World}{base:Nat}{t:Int}(hb:base<=w.heap.size)(h0:0<=t)(h1:t<=1099511627776) :
  InT (w.alloc (.cells #[.bool true,.int .u64 t,.int .u64 t,.map none] 59)) base ⟨w.heap.size,none,⟨true,t,t,[]⟩⟩ where
 obj:=heap_alloc_new w _
 wro m hm:=by cases hm
 non h:=rfl
 snp:=rfl
 srt:=List.Pairwise.nil
 lowT:=hb
 lo0:=h0
 lo1:=by show t<=1099511627777;omega
 hi0:=h0
 hi1:=h1
 loW h:=by cases h
theorem snap_full {w:World}{base mb vb lb:Nat}{lv tv:Value}{G:GM}(h:InM w base mb vb lb lv tv G)(hl:16<=G.live.length) :
  Calls Tryz.prog 50 #[.pointer (some ⟨mb,0,none⟩)] w λe w'=>e=.returned (.tuple #[.int .i64 0,.int .i64 5])/\Below w.heap.size w w':=by
 have H:=Zh h;clear h
 go_enter Tryz.func50,Tryz.ntmps50
 go_wp2_with fail
 refine(safe_any H.out).mono ?_;rintro e w1 ⟨rfl,hb1⟩;have HB1:=Zh hb1;have H1:=Zh (H.out.below hb1);clear hb1
 go_wp2_with fail
 refine(safe_any H1.out).mono ?_;rintro e w2 ⟨rfl,hb2⟩;have HB2:=Zh (bTrans HB1.out hb2);have H2:=Zh (H1.out.below hb2);clear hb2
 go_wp2_with fail
 refine(begin_full (H2.out.below (bAlloc (Zb _ _) _)) hl _).mono ?_;rintro e w3 ⟨rfl,hb3⟩;have HB3:=Zh (bTrans (bAlloc HB2.out _) hb3);clear hb3
 go_wp2
 refine Zp (v:=.tuple #[_,_]) (by simp[results,Tryz.results50,go_sem]) rfl ⟨rfl,HB3.out⟩
theorem InM.safe_bd {w:World}{base mb vb lb:Nat}{lv tv:Value}{G:GM}(h:InM w base mb vb lb lv tv G):0<=G.plain.safe/\G.plain.safe<=1099511627776:=by
 have:=Tx.safe_bd (xs:=G.live.map λp=>p.2.tx) h.clk.1 h.clk.2 (λz hz=>by
  obtain⟨p,hp,rfl⟩:=List.mem_map.1 hz;exact(h.ts p hp).loW)
 unfold MS.safe;rw[show G.plain.live=lift TE.tx G.live from rfl,lift_snd];exact this
theorem InM.reads_lt {w:World}{base mb vb lb:Nat}{lv tv:Value}{G:GM}(h:InM w base mb vb lb lv tv G):∀b∈G.reads,b<w.heap.size:=λb hb=>by
 obtain⟨p,hp,o,v,e⟩:=mem_reads.1 hb;obtain⟨b',o',e',hlt,-⟩:=(h.rows p hp).1 (h.nev p hp);rw[e] at e';injection e' with e';injection e' with e' _ _;omega
theorem snap_any {w:World}{base mb vb lb:Nat}{lv tv:Value}{G:GM}(h:InM w base mb vb lb lv tv G)(hbase:base<=w.heap.size)(hl:G.live.length<16)(hL:G.last<1000000) :
  Calls Tryz.prog 50 #[.pointer (some ⟨mb,0,none⟩)] w λe w'=>e=.returned (.tuple #[.int .i64 (G.last+1),.int .i64 0])/\∃y:TE,y.tx=⟨true,G.plain.safe,G.plain.safe,[]⟩/\w.heap.size<=y.tb/\y.wm=none /\
   InM w' base mb vb lb lv tv { G with last:=G.last+1,live:=put (G.last+1) y G.live }/\Keeps w w' [mb,lb]:=by
 have H:=Zh h;have hbd:=h.safe_bd;clear h
 go_enter Tryz.func50,Tryz.ntmps50
 go_wp2_with fail
 refine(safe_any H.out).mono ?_;rintro e w1 ⟨rfl,hb1⟩;have HB1:=Zh hb1;have H1:=Zh (H.out.below hb1);clear hb1
 go_wp2_with fail
 refine(safe_any H1.out).mono ?_;rintro e w2 ⟨rfl,hb2⟩;have HB2:=Zh (bTrans HB1.out hb2);have H2:=Zh (H1.out.below hb2);have hz2:w.heap.size<=w2.heap.size:=HB2.out.size;clear hb2;have HY:=Zh (InT.freshS (w:=w2) (base:=base) (t:=G.plain.safe) (by omega) hbd.1 hbd.2);have hBe:=begin_any (y:=⟨w2.heap.size,none,⟨true,G.plain.safe,G.plain.safe,[]⟩⟩) (H2.out.below (bAlloc (Zb _ _) _)) HY.out
  ⟨λhh=>Nat.lt_irrefl _ (H2.out.foot_lt _ hh),λhh=>Nat.lt_irrefl _ (H2.out.reads_lt _ hh)⟩ (λm e=>by cases e) hl hL
 have HBe:=Zh hBe;clear hBe
 go_wp2_with fail
 refine HBe.out.mono ?_;rintro e w3 ⟨rfl,hI,hK⟩;have HI:=Zh hI;have HK:=Zh ((Keeps.of_below [mb,lb] (bAlloc HB2.out _)).trans hK);clear hI hK
 go_wp2
 refine Zp (v:=.tuple #[_,_]) (by simp[results,Tryz.results50,go_sem]) rfl ⟨rfl,_,rfl,?_,rfl,HI.out,HK.out⟩;exact hz2
theorem begins_any {w:World}{base mb vb lb:Nat}{lv tv:Value}{G:GM}(h:InM w base mb vb lb lv tv G)(hbase:base<=w.heap.size)(width:Int)(w0:0<width)(w1:width<=1000)(hc:G.clock<1099511627776)(hl:G.live.length<16)(hL:G.last<1000000) :
  Calls Tryz.prog 49 #[.pointer (some ⟨mb,0,none⟩),.int .u64 width] w λe w'=>e=.returned (.tuple #[.int .i64 (G.last+1),.int .i64 0])/\∃y:TE,y.tx=⟨false,G.clock+1,hiOf G.clock width,[]⟩/\w.heap.size<=y.tb/\(∀m,y.wm=some m->w.heap.size<=m) /\
   InM w' base mb vb lb lv tv { G with last:=G.last+1,live:=put (G.last+1) y G.live }/\Keeps w w' [mb,lb]:=by
 have H:=Zh h;obtain⟨-,-,c2,-,-,-⟩:=h.cells;have hclk:=h.clk;have hml:=h.lt;have hw0:¬width=0:=by omega
 have hw1:¬(1000:Int)<width:=by omega
 have hcz:¬(1099511627776:Int)<=G.clock:=by omega
 clear h
 go_enter Tryz.func49,Tryz.ntmps49
 go_wp2_with fail
 have hmm:=@run_makeMap Tryz.prog;have hd2:w.drew.cell? ⟨mb,2,none⟩=some (.int .u64 G.clock):=c2;have e1:IntKind.u64.wrap (G.clock+1)=G.clock+1:=by rw[IntKind.wrap_u64];omega
 obtain⟨hi,e2,hh0,hh1,hif⟩:∃hi,min (IntKind.u64.wrap (G.clock+width)) 1099511627776=hi/\0<=hi/\hi<=1099511627776/\hi=hiOf G.clock width :=
  ⟨hiOf G.clock width,by rw[IntKind.wrap_u64];unfold hiOf;split<;>omega,by unfold hiOf;split<;>omega,by unfold hiOf;split<;>omega,rfl⟩
 have HF:=Zh hif;clear hif;have hY:=InT.fresh (w:=w) (lo:=G.clock+1) (hi:=hi) hbase (by omega) (by omega) hh0 hh1;have HBe:=Zh (begin_any (y:=⟨w.heap.size+1,some w.heap.size,⟨false,G.clock+1,hi,[]⟩⟩) (H.out.below (Below.drew (bAlloc (bAlloc (Zb _ _) _) _)))
  (hY.below (Below.drew (Zb _ _)))
  ⟨λhh=>absurd (H.out.foot_lt _ hh) (by simp),λhh=>absurd (H.out.reads_lt _ hh) (by simp)⟩ (λm e=>by injection e with e;subst e;exact⟨λhh=>Nat.lt_irrefl _ (H.out.foot_lt _ hh),λhh=>Nat.lt_irrefl _ (H.out.reads_lt _ hh)⟩) hl hL)
 clear hY
 go_region_held3 (λw'=>w'.cell? ⟨mb,2,none⟩=some (.int .u64 G.clock)) (first|exact hc8|exact c2|(simp[go_sem, *];done)) (first|(go_at_call 96;refine HBe.out.mono ?_;rintro e w8 ⟨rfl,hI0,hK0⟩;have hc8:w8.cell? ⟨mb,2,none⟩=some (.int .u64 G.clock):=hI0.cells.2.2.1;have HI:=Zh hI0;have HK:=Zh hK0;clear hI0 hK0))
 all_goals
  go_wp2
  refine Zp (v:=.tuple #[_,_]) (by simp[results,Tryz.results49,go_sem]) rfl ⟨rfl,_,by rw[←HF.out],?_,?_,HI.out,(Keeps.of_below [mb,lb] (Below.drew (bAlloc (bAlloc (Zb _ _) _) _))).trans HK.out⟩
  ·show w.heap.size<=w.heap.size+1
   omega
  ·intro m e
   injection e with e;subst e;exact Zr _
end Tx
end
section
open Go.RowKit
namespace Lk
open Span Sets Rec
open Pw (Keeps)
theorem infoK:(Tryz.prog.info? 54).map (λi=>(i.zero,i.size,i.bytes))=some (some (.agg #[.int .i64 0,.string ⟨#[]⟩,.string ⟨#[]⟩,.int .u64 0,.int .u64 0]),5,56):=by kernel_rfl
theorem bytes_ext {a b:ByteArray}(h:a.toList=b.toList):a=b:=by
 rw[Lib.toList_data,Lib.toList_data] at h
 cases a;cases b
 simpa using h
theorem le_cases (a b:ByteArray):(Op.bytesLess a.toList b.toList=true/\leS a b=true)∨(Op.bytesLess a.toList b.toList=false/\a=b/\leS a b=true)∨(Op.bytesLess a.toList b.toList=false/\(a.toList == b.toList)=false/\leS a b=false):=by
 unfold leS
 cases h:Op.bytesLess a.toList b.toList
 ·by_cases h':a.toList=b.toList
  ·exact .inr (.inl ⟨rfl,bytes_ext h',by simp[h']⟩)
  ·exact .inr (.inr ⟨rfl,by simpa using h',by simpa using h'⟩)
 ·exact .inl ⟨rfl,rfl⟩
theorem contains_any (x:L)(k:ByteArray)(w:World):Calls Tryz.prog 132 #[aggL x,.string k] w λe w'=>e=.returned (.bool (leS x.2.1 k&&leS k x.2.2.1))/\Below w.heap.size w w':=by
 obtain⟨x0,x1,x2,x3,x4⟩:=x;have hne:¬(w.heap.size+1=w.heap.size):=by omega
 simp only[];rcases le_cases x1 k with⟨h1,h2⟩|⟨h1,e1,h2⟩|⟨h1,h1',h2⟩<;>rcases le_cases k x2 with⟨h3,h4⟩|⟨h3,e3,h4⟩|⟨h3,h3',h4⟩
 all_goals
  rw[h2,h4];clear h2 h4
  (try subst e1)
  (try subst e3)
  go_enter Tryz.func132,Tryz.ntmps132
  go_wp2
  go_ret;exact⟨by simp[*],bAlloc (Zb _ _) _⟩
theorem contains_is (v:Bool)(x:L)(k:ByteArray)(h:(leS x.2.1 k&&leS k x.2.2.1)=v)(w:World):Calls Tryz.prog 132 #[aggL x,.string k] w λe w'=>e=.returned (.bool v)/\Below w.heap.size w w':=by
 subst h;exact contains_any x k w
end Lk
end
section
open Go.RowKit
namespace Lk
open Span Sets Rec
open Pw (Keeps)
theorem row_keeps {α:Type}{E:Kind α}{w w':World}{p:Option Addr}{xs:List α}{F:List Nat}(hr:Row E w p xs)(hk:Keeps w w' F)(hp:∀q,p=some q->q.block∉F):Row E w' p xs:=λhne=>by
 obtain⟨b,off,e,hb,hc⟩:=hr hne;exact⟨b,off,e,Nat.lt_of_lt_of_le hb hk.size,λj u hj=>(hk.cell hb (hp _ e)).trans (hc j u hj)⟩
theorem Row.lk {w:World}{a:Option Addr}{xs:List L}(h:Row lkK w a xs){j:Nat}{x:L}(hx:xs[j]?=some x) :
  ∃b off,a=some ⟨b,off,none⟩/\b<w.heap.size/\w.cell? ⟨b,off+j*5,none⟩=some (.int .i64 x.1)/\w.cell? ⟨b,off+j*5+1,none⟩=some (.string x.2.1)/\w.cell? ⟨b,off+j*5+2,none⟩=some (.string x.2.2.1)/\w.cell? ⟨b,off+j*5+3,none⟩=some (.int .u64 x.2.2.2.1)/\w.cell? ⟨b,off+j*5+4,none⟩=some (.int .u64 x.2.2.2.2):=by
 obtain⟨b,off,e,hb,hc⟩:=h.at hx;exact⟨b,off,e,hb,hc 0 _ rfl,hc 1 _ rfl,hc 2 _ rfl,hc 3 _ rfl,hc 4 _ rfl⟩
abbrev VarL (w:World)(b:Nat)(x:L):Prop:=w.heap[b]?=some (.cells #[.int .i64 x.1,.string x.2.1,.string x.2.2.1,.int .u64 x.2.2.2.1,.int .u64 x.2.2.2.2] 54 (0,0))
theorem VarL.cells {w:World}{b:Nat}{x:L}(h:VarL w b x):w.cell? ⟨b,0,none⟩=some (.int .i64 x.1)/\w.cell? ⟨b,1,none⟩=some (.string x.2.1)/\w.cell? ⟨b,2,none⟩=some (.string x.2.2.1)/\w.cell? ⟨b,3,none⟩=some (.int .u64 x.2.2.2.1)/\w.cell? ⟨b,4,none⟩=some (.int .u64 x.2.2.2.2):=by
 unfold World.cell?;simp[h]
theorem VarL.frozen {w:World}{b:Nat}{x:L}(h:VarL w b x)(j:Nat):w.frozen? ⟨b,j,none⟩=false:=by unfold World.frozen?;simp[h]
end Lk
end
section
open Go.RowKit
namespace Spans
open Span Sets
theorem smeet_any (a a':Option Addr)(c c':Nat)(xs ys:List (Int×Int))(w:World)(hrow:Row w a xs)(hrow':Row w a' ys)(hx:Bd xs)(hy:Bd ys)(sx:Sep xs)(sy:Sep ys)(hn:xs.length+ys.length<=900) :
  Calls Tryz.prog 130 #[.slice a xs.length c,.slice a' ys.length c'] w (Gives w.heap.size w λr=>(∀t,In t r↔In t xs/\In t ys)/\r.length<=xs.length+ys.length):=by
 obtain⟨n,hnn⟩:∃n,xs.length=n:=⟨_,rfl⟩;obtain⟨m,hmm⟩:∃m,ys.length=m:=⟨_,rfl⟩;have HR:=Zh hrow;have HR':=Zh hrow';have HX:=Zh hx;have HY:=Zh hy;have SX:=Zh sx;have SY:=Zh sy;have HN:=Zh hnn;have HM:=Zh hmm;rw[hnn,hmm] at hn ⊢;clear hrow hrow' hx hy hnn hmm sx sy
 go_enter Tryz.func130,Tryz.ntmps130
 go_wp2
 go_loopw [5,6,7] (λv i j wr=>∃(ki kj:Nat) (out:List (Int×Int)),ki<=n/\kj<=m/\i=.int .i64 ki/\j=.int .i64 kj/\MInv xs ys out ki kj/\wr.ownsRow w.heap.size 52 2 v out.length (flat out)/\Below w.heap.size w wr)
  (λ_ i j _=>(n-(intOf i).toNat)+(m-(intOf j).toNat))
 case atStart=>exact⟨0,0,[],Nat.zero_le _,Nat.zero_le _,rfl,rfl,minv_start xs ys,World.ownsRow_nil _ _ _ _,Zb _ _⟩
 case round =>
  obtain⟨ki,kj,out,hki,hkj,rfl,rfl,hinv,hown,hbel⟩:=hrel;have HI:=Zh hinv;clear hinv
  by_cases hi:ki<n
  ·by_cases hj:kj<m
   ·obtain⟨s,hs⟩:∃s,xs[ki]?=some s:=⟨_,Zg (by rw[HN.out];exact hi)⟩
    obtain⟨u,hu⟩:∃u,ys[kj]?=some u:=⟨_,Zg (by rw[HM.out];exact hj)⟩;obtain⟨b,off,rfl,hbl,hc0,hc1⟩:=HR.out ki s hs;obtain⟨b',off',rfl,hbl',hd0,hd1⟩:=HR'.out kj u hu;have hzr:=hbel.size;have hg0:wr.cell? ⟨b,off+ki*2,none⟩=some (.int .u64 s.1):=(hbel.cell (p:=⟨b,_,none⟩) hbl).trans hc0;have hg1:wr.cell? ⟨b,off+ki*2+1,none⟩=some (.int .u64 s.2):=(hbel.cell (p:=⟨b,_,none⟩) hbl).trans hc1;have hk0:wr.cell? ⟨b',off'+kj*2,none⟩=some (.int .u64 u.1):=(hbel.cell (p:=⟨b',_,none⟩) hbl').trans hd0;have hk1:wr.cell? ⟨b',off'+kj*2+1,none⟩=some (.int .u64 u.2):=(hbel.cell (p:=⟨b',_,none⟩) hbl').trans hd1;have HST:=Zh (minv_step HI.out SX.out SY.out HX.out HY.out hs hu);have hmb:=meet_bd s u (HX.out s (Zm hs)) (HY.out u (Zm hu));have hol:out.length<=1000:=by have:=HI.out.len;omega
    have hw:=λv W h1 h2=>with_any w.heap.size v out.length out _ _ W h1 h2 HI.out.bd hmb hol
    have HW:=Zh hw;have hk:∀w',Below w.heap.size w w'->w'.cell? ⟨b,off+ki*2,none⟩=some (.int .u64 s.1)/\w'.cell? ⟨b,off+ki*2+1,none⟩=some (.int .u64 s.2)/\w'.cell? ⟨b',off'+kj*2,none⟩=some (.int .u64 u.1)/\w'.cell? ⟨b',off'+kj*2+1,none⟩=some (.int .u64 u.2) :=
     λw' h=>⟨(h.cell (p:=⟨b,_,none⟩) hbl).trans hc0,(h.cell (p:=⟨b,_,none⟩) hbl).trans hc1,(h.cell (p:=⟨b',_,none⟩) hbl').trans hd0,(h.cell (p:=⟨b',_,none⟩) hbl').trans hd1⟩
    have HK:=Zh hk;clear hk hw hmb hol hs hu hc0 hc1 hd0 hd1;obtain⟨s1,s2⟩:=s;obtain⟨u1,u2⟩:=u;simp only[] at hg0 hg1 hk0 hk1;have hbr:b<wr.heap.size:=by omega
    have hbr':b'<wr.heap.size:=by omega
    have HO:=Zh hown;have HB:=Zh hbel;clear hown
    go_wp2_with fail
    go_region_held3 (λw'=>w'.cell? ⟨b,off+ki*2,none⟩=some (.int .u64 s1)/\w'.cell? ⟨b,off+ki*2+1,none⟩=some (.int .u64 s2)/\w'.cell? ⟨b',off'+kj*2,none⟩=some (.int .u64 u1)/\w'.cell? ⟨b',off'+kj*2+1,none⟩=some (.int .u64 u2)) (first|exact HK.out _ hB5|exact HK.out _ hB4|exact HK.out _ (Below.drew HB.out))
     (first
      |(go_at_call 159;refine(meet_any _ _ _ _ _).mono ?_;rintro e w4 ⟨rfl,hb4⟩;have hc4:∀b o,b<wr.heap.size->w4.cell? ⟨b,o,none⟩=wr.cell? ⟨b,o,none⟩:=(bcell hb4).1;have hz4:wr.heap.size<=w4.heap.size:=hb4.size;have hB4:Below w.heap.size w w4:=HB.out.drew.trans (hb4.mono (by exact hzr)))
      |(go_at_call 180;refine(HW.out _ _ (by omega) (own_below HO.out.drew hb4)).mono ?_;rintro e w5 ⟨v5,rfl,hown5,hb5,-⟩;have hB5:Below w.heap.size w w5:=hB4.trans hb5))
    obtain⟨q0,q1,q2,q3⟩:=HK.out _ hB5;have hz5:=hB5.size;have hbr5:b<w5.heap.size:=by omega
    have hbr5':b'<w5.heap.size:=by omega
    have HB5:=Zh hB5;have HO5:=Zh hown5;clear hB5 hown5 hB4 hb4 hb5 hc4 hz4 hg0 hg1 hk0 hk1;rcases Int.lt_or_le s2 u2 with hlt|hlt
    ·have hinv:=HST.out.1 hlt
     have HI5:=Zh hinv;clear hinv
     go_wp2_with fail
     go_region
     go_wp2
     exact⟨⟨ki+1,kj,_,by omega,by omega,by go_num,rfl,HI5.out,HO5.out,HB5.out.drew⟩,by simp[intOf];omega⟩
    ·have hinv:=HST.out.2 hlt
     have HI5:=Zh hinv;have hlt':¬s2<u2:=by omega
     clear hinv
     go_wp2_with fail
     go_region
     go_wp2
     exact⟨⟨ki,kj+1,_,by omega,by omega,rfl,by go_num,HI5.out,HO5.out,HB5.out.drew⟩,by simp[intOf];omega⟩
   ·have hjm:kj=m:=by omega
    subst hjm
    go_wp2
    go_ret;obtain⟨b,cb,rfl,hl,hr,_⟩:=own_form hown;exact⟨b,cb,out,rfl,hr,HI.out.sep,HI.out.bd,⟨minv_end HI.out (.inr (by rw[HM.out];omega)),by have:=HI.out.len;omega⟩,hbel⟩
  ·have hin:ki=n:=by omega
   subst hin
   go_wp2
   go_ret;obtain⟨b,cb,rfl,hl,hr,_⟩:=own_form hown;exact⟨b,cb,out,rfl,hr,HI.out.sep,HI.out.bd,⟨minv_end HI.out (.inl (by rw[HN.out];omega)),by have:=HI.out.len;omega⟩,hbel⟩
end Spans
end
section
open Go.RowKit
namespace Spans
open Span Sets
theorem gaps_any (a:Option Addr)(c:Nat)(xs:List (Int×Int))(w:World)(hrow:Row w a xs)(hx:Bd xs)(sx:Sep xs)(hn:xs.length<=400) :
  Calls Tryz.prog 131 #[.slice a xs.length c] w (Gives w.heap.size w λr=>(∀t,0<=t->t<=18446744073709551615->(In t r↔¬In t xs))/\r.length<=xs.length+1):=by
 obtain⟨n,hnn⟩:∃n,xs.length=n:=⟨_,rfl⟩;have HR:=Zh hrow;have HX:=Zh hx;have SX:=Zh sx;have HN:=Zh hnn;rw[hnn] at hn ⊢;clear hrow hx hnn sx
 go_enter Tryz.func131,Tryz.ntmps131
 go_wp2
 go_loopw [3,12] (λv i wr=>∃(k:Nat) (out:List (Int×Int)) (r1 r2:Int),k<=n/\i=.int .i64 k/\GInv xs out (r1,r2) k/\wr.ownsRow (w.heap.size+1) 52 2 v out.length (flat out)/\Below w.heap.size w wr/\w.heap.size+1<=wr.heap.size /\
   wr.cell? ⟨w.heap.size,0,none⟩=some (.int .u64 r1)/\wr.cell? ⟨w.heap.size,1,none⟩=some (.int .u64 r2)/\wr.frozen? ⟨w.heap.size,0,none⟩=false/\wr.frozen? ⟨w.heap.size,1,none⟩=false)
  (λ_ i _=>n-(intOf i).toNat)
 case atStart=>exact⟨0,[],0,18446744073709551615,Nat.zero_le _,rfl,ginv_start xs,World.ownsRow_nil _ _ _ _,bAlloc (Zb _ _) _,by simp,by simp[go_sem],by simp[go_sem],by simp[go_sem],by simp[go_sem]⟩
 case round =>
  obtain⟨k,out,r1,r2,hk,rfl,hinv,hown,hbel,hsz,hr1,hr2,hf1,hf2⟩:=hrel;have HI:=Zh hinv;have HO:=Zh hown;clear hinv hown
  by_cases hi:k<n
  ·obtain⟨s,hs⟩:∃s,xs[k]?=some s:=⟨_,Zg (by rw[HN.out];exact hi)⟩
   obtain⟨b,off,rfl,hbl,hc0,hc1⟩:=HR.out k s hs;have hg0:wr.cell? ⟨b,off+k*2,none⟩=some (.int .u64 s.1):=(hbel.cell (p:=⟨b,_,none⟩) hbl).trans hc0;have hg1:wr.cell? ⟨b,off+k*2+1,none⟩=some (.int .u64 s.2):=(hbel.cell (p:=⟨b,_,none⟩) hbl).trans hc1;have HST:=Zh (ginv_step HI.out SX.out HX.out hs);have hsb:=HX.out s (Zm hs);have hss:=SX.out.1 s (Zm hs);have hrb:=HI.out.bdr;have hlb:=below_bd (r1,r2) s.1 hrb hsb.1;have hol:out.length<=1000:=by have:=HI.out.len;omega
   have hw:=λv W h1 h2=>with_any (w.heap.size+1) v out.length out _ _ W h1 h2 HI.out.bd hlb hol
   have HW:=Zh hw;obtain⟨s1,s2⟩:=s;unfold bd1 at hsb hrb;simp only[] at hg0 hg1 hss hsb hrb;have hls:=λW=>less_some r1 r2 s1 s2 hrb.1.1 hrb.2.2 hsb.1.2 hsb.2.1 hss W
   have HLS:=Zh hls;have HF:=Zh (Za hr1 (Za hr2 (Za hf1 hf2)));clear hw hol hs hc0 hc1 hlb hls hrb hsb hss;have hlt0:w.heap.size<wr.heap.size:=by omega
   go_wp2_with fail
   refine(HLS.out _).mono ?_;rintro e w4 ⟨rfl,hb4⟩;have hz4:=hb4.size;simp only[World.size_alloc] at hz4;have hB4:Below w.heap.size w w4:=(bAlloc hbel _).trans (hb4.mono (by have:=hbel.size;simp;omega));have hK4:Below (w.heap.size+1) wr w4:=((Zb _ _).alloc hsz _).trans (hb4.mono (by simp;omega))
   go_wp2_with fail
   refine(HW.out _ _ (by simp;omega) (((own_below (HO.out.alloc _) hb4).alloc _).alloc _)).mono ?_;rintro e w5 ⟨v5,rfl,hown5,hb5,hgr5⟩;have hz5:=hgr5.size;simp only[World.size_alloc] at hz5;have hK5:Below (w.heap.size+1) wr w5:=((hK4.alloc (by omega) _).alloc (by simp;omega) _).trans hb5;have hne:∀j,w4.heap.size<=j->some j≠u3.ownBlock:=λj hj h=>by have:=(HO.out.lt _ h.symm).2;omega
   have hq0:w5.cell? ⟨w4.heap.size+1,0,none⟩=some (.int .u64 (aboveLo r1 r2 s2)):=(hgr5.cell_far ⟨w4.heap.size+1,0,none⟩ (by simp) (hne _ (by simp))).trans (by simp[go_sem]);have hq1:w5.cell? ⟨w4.heap.size+1,1,none⟩=some (.int .u64 (aboveHi r1 r2 s2)):=(hgr5.cell_far ⟨w4.heap.size+1,1,none⟩ (by simp) (hne _ (by simp))).trans (by simp[go_sem]);have hp0:w5.cell? ⟨w.heap.size,0,none⟩=some (.int .u64 r1):=(hK5.cell (p:=⟨w.heap.size,0,none⟩) (by simp)).trans HF.out.1;have hp1:w5.cell? ⟨w.heap.size,1,none⟩=some (.int .u64 r2):=(hK5.cell (p:=⟨w.heap.size,1,none⟩) (by simp)).trans HF.out.2.1;have hf0:w5.frozen? ⟨w.heap.size,0,none⟩=false:=(hK5.frozen (p:=⟨w.heap.size,0,none⟩) (by simp)).trans HF.out.2.2.1;have hf1:w5.frozen? ⟨w.heap.size,1,none⟩=false:=(hK5.frozen (p:=⟨w.heap.size,1,none⟩) (by simp)).trans HF.out.2.2.2;have hB5:Below w.heap.size w w5:=((hB4.alloc (by omega) _).alloc (by simp;omega) _).trans (hb5.mono (by omega));have HQ:=Zh (Za hB5 (Za hown5 (Za hK5 hne)));clear hB5 hown5 hgr5 hK5 hK4 hB4 hb4 hb5 hne hr1 hr2 HW HLS
   go_wp2
   refine⟨⟨k+1,_,_,_,by omega,by go_num,HST.out,?_,?_,?_,?_,?_,?_,?_⟩,by simp[intOf];omega⟩
   ·exact ownsRow_setCell_below (ownsRow_setCell_below HQ.out.2.1 (a:=⟨w.heap.size,0,none⟩) (Nat.lt_succ_self _) _) (a:=⟨w.heap.size,1,none⟩) (Nat.lt_succ_self _) _
   ·exact(HQ.out.1.setCell (p:=⟨w.heap.size,0,none⟩) (Zr _) _).setCell (p:=⟨w.heap.size,1,none⟩) (Zr _) _
   ·simp;omega
   ·rw[World.cell?_setCell_other _ _ _ _ (by simp)];exact cset_same (isSome_of hp0)
   ·exact cset_same (isSome_set (isSome_of hp1))
   ·rw[World.frozen?_setCell,World.frozen?_setCell];exact hf0
   ·rw[World.frozen?_setCell,World.frozen?_setCell];exact hf1
  ·have hin:k=n:=by omega
   subst hin;have hol:out.length<=1000:=by have:=HI.out.len;omega
   have hw:=with_any (w.heap.size+1) u3 out.length out r1 r2 wr hsz HO.out HI.out.bd HI.out.bdr hol;have HW:=Zh hw;have HB:=Zh hbel;clear hw hol hbel
   go_wp2_with fail
   refine HW.out.mono ?_;rintro e w5 ⟨v5,rfl,hown5,hb5,-⟩
   go_wp2
   go_ret;obtain⟨h1,h2,h3,h4⟩:=ginv_end HI.out (by rw[HN.out];omega);obtain⟨b,cb,rfl,hl,hr,_⟩:=own_form hown5;exact⟨b,cb,_,rfl,hr,h1,h2,⟨h3,h4⟩,HB.out.trans (hb5.mono (by omega))⟩
theorem sless_any (a a':Option Addr)(c c':Nat)(xs ys:List (Int×Int))(w:World)(hrow:Row w a xs)(hrow':Row w a' ys)(hx:Bd xs)(hy:Bd ys)(sx:Sep xs)(sy:Sep ys)(hn:xs.length+ys.length<=400) :
  Calls Tryz.prog 85 #[.slice a xs.length c,.slice a' ys.length c'] w (Gives w.heap.size w λr=>(∀t,In t r↔In t xs/\¬In t ys)/\r.length<=xs.length+ys.length+1):=by
 have hgaps:=gaps_any a' c' ys w hrow' hy sy (by omega);have HG:=Zh hgaps;have HR:=Zh hrow;have HX:=Zh hx;have SX:=Zh sx;have HH:=Zh hn;clear hrow hrow' hx hy sx sy hgaps hn
 go_enter Tryz.func85,Tryz.ntmps85
 go_wp2_with fail
 refine HG.out.mono ?_;rintro e w1 ⟨b,cb,r,rfl,h1,h2,h3,⟨h4,h5⟩,h6⟩;have hmeet:=smeet_any a b c cb xs r w1 (HR.out.below h6) h1 HX.out h3 SX.out h2 (by have:=HH.out;omega);have HM:=Zh hmeet;have H4:=Zh h4;have H6:=Zh h6;have H5:=Zh h5;clear h1 h2 h3 hmeet h4 h5 h6
 go_wp2_with fail
 refine HM.out.mono ?_;rintro e w2 ⟨b2,cb2,r2,rfl,k1,k2,k3,⟨k4,k5⟩,k6⟩;have K4:=Zh k4;clear k4
 go_wp2
 go_ret;refine⟨b2,cb2,r2,rfl,k1,k2,k3,⟨λt=>?_,by have:=H5.out;omega⟩,bTrans H6.out k6⟩;rw[K4.out]
 constructor
 ·rintro ⟨h1,h2⟩
  have:=in_bd HX.out h1;exact⟨h1,(H4.out t this.1 this.2).1 h2⟩
 ·rintro ⟨h1,h2⟩
  have:=in_bd HX.out h1;exact⟨h1,(H4.out t this.1 this.2).2 h2⟩
end Spans
end
end Go.Proofs.YtdbapbkeangggaaGreatDoor
