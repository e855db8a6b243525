/- Chapter 19's example comes to what the chapter says, over wh -/
import Derived.Test.YteieocddfnlmdaaGreatDoorO40
import Derived.Test.YteieocddfnlmdaaGreatDoorO24
set_option maxRecDepth 100000
set_option maxHeartbeats 32000000
set_option linter.unusedSimpArgs false
set_option linter.unusedVariables false
namespace Go.Proofs.YteieocddfnlmdaaGreatDoor
open Go.RowKit Go.Lib
theorem Zd1 {w:World} {b n s:Nat} {E:TypeId} {v:Value} {xs:List Value} (h:w.ownsRow b E s v n xs) (hn:0<n): ∃g c,v=.slice (some ⟨g,0,none⟩) n c∧c≤maxLen:=by
 rcases h.2 with⟨-,e⟩|⟨g,cap,cur,e, -, -, -,h2, -⟩
 · omega
 · exact⟨g,cap,e,h2⟩
theorem ZuR (w:World):Calls Tryz.prog 25 #[.agg #[.int .i64 4,.int .i64 0,.int .i64 2,.int .i64 3]] w fun e w'=> ∃(gw cw:Nat) (fa:Option Addr) (fc gs cs:Nat),e=.returned (.tuple #[.agg #[.int .i64 4,.int .i64 0,.int .i64 2,.int .i64 3,.bool false,.slice (some ⟨gw,0,none⟩) 8 cw,.int .i64 0,.slice none 0 0,.slice fa 0 fc,.slice (some ⟨gs,0,none⟩) 2 cs],.int .i64 0])∧
 w'.ownsRow w.heap.size 48 1 (.slice (some ⟨gw,0,none⟩) 8 cw) 8 (u64s (List.replicate 8 0))∧w'.ownsRow w.heap.size 61 3 (.slice (some ⟨gs,0,none⟩) 2 cs) 2 (slc [(false,0,0),(false,0,0)])∧fc≤maxLen∧Only nob w w':=by
 refine(ZqM lC w Zo5 Zga).mono ?_;rintro e w' ⟨vw,vf,vs,rfl,hr,h1,h2,o⟩;rw[lW8] at h1;have h2':w'.ownsRow w.heap.size 61 3 vs 2 (slc [(false,0,0),(false,0,0)]):=h2;obtain⟨gw,cw,rfl, -⟩:=Zd1 h1 (by decide);obtain⟨gs,cs,rfl, -⟩:=Zd1 h2' (by decide);have hf:=hr.free;rw[ZrE] at hf;obtain⟨fa,fc,rfl, -,hfc⟩:=Sl.form hf;exact⟨gw,cw,fa,fc,gs,cs,rfl,h1,h2',hfc,o⟩
theorem Zms {w:World} {B:Nat} {A:Option Addr} {c s:Nat} (h:c≤maxLen):Sl w B s (.slice A 0 c) 0 []:=⟨A,c,rfl,Yu _,h,by simp,fun h=>absurd h (Nat.lt_irrefl 0)⟩
theorem Zve {w w1:World} (o:Only nob w w1) {gw cw gs cs fc:Nat} {fa:Option Addr} (hw:w1.ownsRow w.heap.size 48 1 (.slice (some ⟨gw,0,none⟩) 8 cw) 8 (u64s (List.replicate 8 0))) (hs:w1.ownsRow w.heap.size 61 3 (.slice (some ⟨gs,0,none⟩) 2 cs) 2 (slc [(false,0,0),(false,0,0)])) (hf:fc≤maxLen):
 ∃W1 W2 W3 W4 W5,w1.alloc (.cells #[.int .i64 4,.int .i64 0,.int .i64 2,.int .i64 3,.bool false,.slice (some ⟨gw,0,none⟩) 8 cw,.int .i64 0,.slice none 0 0,.slice fa 0 fc,.slice (some ⟨gs,0,none⟩) 2 cs] 28)=W1∧W1.setCell ⟨gw,0,none⟩ (.int .u64 259)=W2∧W2.setCell ⟨gw,1,none⟩ (.int .u64 2)=W3∧W3.setCell ⟨w1.heap.size,6,none⟩ (.int .i64 2)=W4∧(((W4.setCell ⟨gs,3,none⟩ (.bool true)).setCell ⟨gs,4,none⟩ (.int .i64 0)).setCell ⟨gs,5,none⟩ (.int .u64 2))=W5∧
  Hid (W1.cell? ⟨w1.heap.size,5,none⟩=some (.slice (some ⟨gw,0,none⟩) 8 cw)∧W1.cell? ⟨w1.heap.size,9,none⟩=some (.slice (some ⟨gs,0,none⟩) 2 cs)∧W1.cell? ⟨gw,0,none⟩=some (.int .u64 0)∧W1.frozen? ⟨gw,0,none⟩=false)∧
  Hid (W2.cell? ⟨w1.heap.size,5,none⟩=some (.slice (some ⟨gw,0,none⟩) 8 cw)∧W2.cell? ⟨gw,1,none⟩=some (.int .u64 0)∧W2.frozen? ⟨gw,1,none⟩=false)∧
  Hid (W3.cell? ⟨w1.heap.size,6,none⟩=some (.int .i64 0)∧W3.frozen? ⟨w1.heap.size,6,none⟩=false)∧
  Hid (W4.cell? ⟨w1.heap.size,9,none⟩=some (.slice (some ⟨gs,0,none⟩) 2 cs)∧(W4.cell? ⟨gs,3,none⟩=some (.bool false)∧W4.cell? ⟨gs,4,none⟩=some (.int .i64 0)∧W4.cell? ⟨gs,5,none⟩=some (.int .u64 0))∧W4.frozen? ⟨gs,3,none⟩=false∧W4.frozen? ⟨gs,4,none⟩=false∧W4.frozen? ⟨gs,5,none⟩=false)∧
  Hid (Only nob w W5∧Rd W5 W5.heap.size lS (.slice (some ⟨gw,0,none⟩) 8 cw) (.slice none 0 0) (.slice fa 0 fc) (.slice (some ⟨gs,0,none⟩) 2 cs)∧SBox W5 w1.heap.size lS (.slice (some ⟨gw,0,none⟩) 8 cw) (.slice none 0 0) (.slice fa 0 fc) (.slice (some ⟨gs,0,none⟩) 2 cs)):=by
 obtain⟨W1,hW1,O1,B1⟩: ∃W1,w1.alloc (.cells #[.int .i64 4,.int .i64 0,.int .i64 2,.int .i64 3,.bool false,.slice (some ⟨gw,0,none⟩) 8 cw,.int .i64 0,.slice none 0 0,.slice fa 0 fc,.slice (some ⟨gs,0,none⟩) 2 cs] 28)=W1∧Only nob w1 W1∧Blk W1 w1.heap.size 28 #[.int .i64 4,.int .i64 0,.int .i64 2,.int .i64 3,.bool false,.slice (some ⟨gw,0,none⟩) 8 cw,.int .i64 0,.slice none 0 0,.slice fa 0 fc,.slice (some ⟨gs,0,none⟩) 2 cs]:=⟨_,rfl,(Only.refl nob w1).alloc _,Blk.new _ _ _⟩
 obtain⟨p,hp⟩: ∃p,p=w1.heap.size:=⟨_,rfl⟩
 rw[← hp] at B1 ⊢;have hw1:=Zb hw O1 fun _ _ h=>h;have hs1:=Zb hs O1 fun _ _ h=>h;have pne: ∀{W:World} {b E n s v x} {cs':Array Value},Blk W p 28 cs'→W.ownsRow b E s v n x→28≠E→ ∀k,v.ownBlock=some k→ ¬isb p k:=fun hb h hE=>ZF hb h hE;obtain⟨g',c',e', -, -,hz0,hc0,hu⟩:=Zdj hw1 (i:=0) (by decide)
 obtain⟨rfl,rfl⟩:gw=g'∧cw=c':=by simpa using e'
 obtain⟨hw2,o2⟩:=hu (.int .u64 259)
 obtain⟨W2,hW2⟩: ∃W2,W1.setCell ⟨gw,0,none⟩ (.int .u64 259)=W2:=⟨_,rfl⟩
 rw[hW2] at hw2 o2;have hs2:=Zb hs1 o2 (Zv hs1 hw1 (by decide));have B2:=B1.keep o2 (blk_own_ne16 B1 hw1 (by decide));obtain⟨g',c',e', -, -,hz1,hc1,hu⟩:=Zdj hw2 (i:=1) (by decide)
 obtain⟨rfl,rfl⟩:gw=g'∧cw=c':=by simpa using e'
 obtain⟨hw3,o3⟩:=hu (.int .u64 2)
 obtain⟨W3,hW3⟩: ∃W3,W2.setCell ⟨gw,1,none⟩ (.int .u64 2)=W3:=⟨_,rfl⟩
 rw[hW3] at hw3 o3;have hs3:=Zb hs2 o3 (Zv hs2 hw2 (by decide));have B3:=B2.keep o3 (blk_own_ne16 B2 hw2 (by decide))
 obtain⟨W4,hW4,o4,B4⟩: ∃W4,W3.setCell ⟨p,6,none⟩ (.int .i64 2)=W4∧Only (isb p) W3 W4∧Blk W4 p 28 #[.int .i64 4,.int .i64 0,.int .i64 2,.int .i64 3,.bool false,.slice (some ⟨gw,0,none⟩) 8 cw,.int .i64 2,.slice none 0 0,.slice fa 0 fc,.slice (some ⟨gs,0,none⟩) 2 cs]:=⟨_,rfl,Zd _ _ _ _,by simpa using B3.put 6 (.int .i64 2)⟩
 have hw4:=Zb hw3 o4 (pne B3 hw3 (by decide));have hs4:=Zb hs3 o4 (pne B3 hs3 (by decide));obtain⟨g',c',e', -, -,hy3,hd3,hu⟩:=Zdj hs4 (i:=3) (by decide)
 obtain⟨rfl,rfl⟩:gs=g'∧cs=c':=by simpa using e'
 obtain⟨hs5,o5⟩:=hu (.bool true);obtain⟨g',c',e', -, -,hy4,hd4, -⟩:=Zdj hs4 (i:=4) (by decide)
 obtain⟨rfl,rfl⟩:gs=g'∧cs=c':=by simpa using e'
 obtain⟨g',c',e', -, -,hy5,hd5, -⟩:=Zdj hs4 (i:=5) (by decide)
 obtain⟨rfl,rfl⟩:gs=g'∧cs=c':=by simpa using e'
 obtain⟨g',c',e', -, -, -, -,hu⟩:=Zdj hs5 (i:=4) (by decide)
 obtain⟨rfl,rfl⟩:gs=g'∧cs=c':=by simpa using e'
 obtain⟨hs6,o6⟩:=hu (.int .i64 0);obtain⟨g',c',e', -, -, -, -,hu⟩:=Zdj hs6 (i:=5) (by decide)
 obtain⟨rfl,rfl⟩:gs=g'∧cs=c':=by simpa using e'
 obtain⟨hs7,o7⟩:=hu (.int .u64 2);have o57:=(o5.trans o6).trans o7
 obtain⟨W5,hW5⟩: ∃W5,(((W4.setCell ⟨gs,3,none⟩ (.bool true)).setCell ⟨gs,4,none⟩ (.int .i64 0)).setCell ⟨gs,5,none⟩ (.int .u64 2))=W5:=⟨_,rfl⟩
 rw[hW5] at hs7 o57;have hw7:=Zb hw4 o57 (Zv hw4 hs4 (by decide));have B7:=B4.keep o57 (blk_own_ne16 B4 hs4 (by decide));have hgw:=(Zl hw (k:=gw) rfl).1;have hgs:=(Zl hs (k:=gs) rfl).1
 have hwp:w.heap.size≤p:=by rw[hp];exact o.size
 have OF:Only nob w W5:=((((o.trans O1).andThen (o2.trans o3) fun i hi e=>by
  have:gw=i:=by simpa[Value.ownBlock] using e
  omega).andThen o4 fun i hi e=>by unfold isb at e;omega).andThen o57 fun i hi e=>by
  have:gs=i:=by simpa[Value.ownBlock] using e
  omega)
 have hc5: ∀{W:World} {t:Int},Blk W p 28 #[.int .i64 4,.int .i64 0,.int .i64 2,.int .i64 3,.bool false,.slice (some ⟨gw,0,none⟩) 8 cw,.int .i64 t,.slice none 0 0,.slice fa 0 fc,.slice (some ⟨gs,0,none⟩) 2 cs]→W.cell? ⟨p,5,none⟩=some (.slice (some ⟨gw,0,none⟩) 8 cw)∧W.cell? ⟨p,9,none⟩=some (.slice (some ⟨gs,0,none⟩) 2 cs):=fun h=>⟨h.cell 5,h.cell 9⟩
 refine⟨W1,W2,W3,W4,W5,hW1,hW2,hW3,hW4,hW5,ZZ ⟨(hc5 B1).1,(hc5 B1).2,hc0,hz0⟩,ZZ ⟨(hc5 B2).1,hc1,hz1⟩,ZZ ⟨B3.cell 6,B3.free 6⟩,ZZ ⟨(hc5 B4).2,⟨hd3,hd4,hd5⟩,hy3,hy4,hy5⟩,ZZ ⟨OF,?_,SBox.of B7⟩⟩;exact⟨Sl.of_own hw7 rfl,Sl.nil_,Zms hf,Sl.of_own hs7 rfl⟩
theorem ZtC (CY:ZuJ 24) (C:LiC):AwL19:=by
 intro w hpar;have HPAR:=ZZ hpar;clear hpar
 go_enter Tryz.func7,Tryz.ntmps7
 go_wp2_with fail
 go_at_call 25;refine(ZuR w).mono ?_;rintro e w1 ⟨gw,cw,fa,fc,gs,cs,rfl,hw,hs,hfc,o⟩
 have hcw:cw≤maxLen:=by obtain⟨_,_,e,h⟩:=Zd1 hw (by decide);simp only[Value.slice.injEq] at e;rw[e.2.2];exact h
 have HL:=Zve (fa:=fa) o hw hs hfc;clear hw hs o;obtain⟨W1,W2,W3,W4,W5,hW1,hW2,hW3,hW4,hW5,H1,H2,H3,H4,H5⟩:=HL;have HW1:=ZZ hW1;have HW2:=ZZ hW2;have HW3:=ZZ hW3;have HW4:=ZZ hW4;have HW5:=ZZ hW5
 obtain⟨p,hp⟩: ∃p,p=w1.heap.size:=⟨_,rfl⟩
 have HP:=ZZ hp;rw[← hp] at H1 H2 H3 H4 H5 HW4;clear hW1 hW2 hW3 hW4 hW5 hp
 go_upto_region 2 with fail
 rw[HW1.out, ← HP.out];obtain⟨a5,a9,ag,af⟩:=H1.out
 go_upto_region 5 with fail
 rw[HW2.out];clear a5 a9 ag af;obtain⟨a5,ag,af⟩:=H2.out
 go_upto_region 6 with fail
 rw[HW3.out];clear a5 ag af;obtain⟨ag,af⟩:=H3.out
 go_upto_region 7 with fail
 rw[HW4.out];clear ag af;obtain⟨a9,⟨a3,a4,a5⟩,f3,f4,f5⟩:=H4.out
 go_upto_region 8 with fail
 rw[HW5.out];clear a9 a3 a4 a5 f3 f4 f5;have O5:=ZZ H5.out.1;have R5:=ZZ H5.out.2.1;have X5:=ZZ H5.out.2.2
 obtain⟨N,hN⟩: ∃N,N=W5.heap.size:=⟨_,rfl⟩
 have HN:=ZZ hN;rw[← hN] at R5;have HK:=ZZ (show ∀W',Only nob W5 W'→Rd W' N lS (.slice (some ⟨gw,0,none⟩) 8 cw) (.slice none 0 0) (.slice fa 0 fc) (.slice (some ⟨gs,0,none⟩) 2 cs)∧N≤W'.heap.size∧Par W' from fun W' o=>⟨R5.out.only o (by rw[HN.out];exact Yj _),by rw[HN.out];exact o.size,HPAR.out.old (O5.out.trans o)⟩);have HBX:=ZZ (show ∀W',Only nob W5 W'→SBox W' p lS (.slice (some ⟨gw,0,none⟩) 8 cw) (.slice none 0 0) (.slice fa 0 fc) (.slice (some ⟨gs,0,none⟩) 2 cs) from fun W' o=>X5.out.keep o);clear hN;have HCL:=ZZ (show ∀W',Only nob W5 W'→W'.cell? ⟨p,0,none⟩=some (.int .i64 4)∧W'.cell? ⟨p,1,none⟩=some (.int .i64 0)∧W'.cell? ⟨p,2,none⟩=some (.int .i64 2)∧W'.cell? ⟨p,3,none⟩=some (.int .i64 3)∧W'.cell? ⟨p,4,none⟩=some (.bool false)∧W'.cell? ⟨p,5,none⟩=some (.slice (some ⟨gw,0,none⟩) 8 cw)∧W'.cell? ⟨p,6,none⟩=some (.int .i64 2)∧W'.cell? ⟨p,7,none⟩=some (.slice none 0 0)∧W'.cell? ⟨p,8,none⟩=some (.slice fa 0 fc)∧W'.cell? ⟨p,9,none⟩=some (.slice (some ⟨gs,0,none⟩) 2 cs) from fun W' o=>⟨(HBX.out W' o).c0,(HBX.out W' o).c1,(HBX.out W' o).c2,(HBX.out W' o).c3,(HBX.out W' o).c4,(HBX.out W' o).c5,(HBX.out W' o).c6,(HBX.out W' o).c7,(HBX.out W' o).c8,(HBX.out W' o).c9⟩)
 have HLF:=ZZ (show ∀W',Only nob W5 W'→Calls Tryz.prog 8 #[.agg #[.int .i64 4,.int .i64 0,.int .i64 2,.int .i64 3,.bool false,.slice (some ⟨gw,0,none⟩) 8 cw,.int .i64 2,.slice none 0 0,.slice fa 0 fc,.slice (some ⟨gs,0,none⟩) 2 cs]] W' fun e w'=> ∃An cn Ar cr js Al cl,e=.returned (.tuple #[.agg #[.slice An 1 cn,.slice Ar 1 cr],.slice Al 1 cl,.int .i64 0])∧RdG w' w'.heap.size lG (.slice An 1 cn) (.slice Ar 1 cr) js∧Only nob W' w' from fun W' o=>by
  have hc:=C.lift lS _ _ _ _ N W' (HK.out W' o).1 (HK.out W' o).2.1 ZpD.1 (HK.out W' o).2.2 ZbX.1;rw[ZkQ,ZeW.1,ZeW.2] at hc;refine hc.mono ?_;rintro e w' ⟨un,ur,js,v,rfl,rd,hs,o⟩;obtain⟨An,cn,rfl, -⟩:=rd.nodes.form;obtain⟨Ar,cr,rfl, -⟩:=rd.roots.form;obtain⟨Al,cl,rfl, -⟩:=hs.form
  exact⟨An,cn,Ar,cr,js,Al,cl,rfl,rd,o⟩)
 have HLV:=ZZ (show ∀W',Only nob W5 W'→Calls Tryz.prog 12 #[.agg #[.int .i64 4,.int .i64 0,.int .i64 2,.int .i64 3,.bool false,.slice (some ⟨gw,0,none⟩) 8 cw,.int .i64 2,.slice none 0 0,.slice fa 0 fc,.slice (some ⟨gs,0,none⟩) 2 cs]] W' fun e w'=>e=.returned (.tuple #[.int .i64 1,.int .i64 2,.int .i64 0,.int .i64 1,.int .i64 0])∧Only nob W' w' from fun W' o=>by
  have hc:=C.live lS _ _ _ _ N W' (HK.out W' o).1 (HK.out W' o).2.1 ZpD.1 (HK.out W' o).2.2 ZbX.1;rw[Zhf.1,Zhf.2.1,Zhf.2.2.1,Zhf.2.2.2,ZeW.1] at hc
  exact hc)
 have HVL:=ZZ (show ∀W',Only nob W5 W'→Calls Tryz.prog 10 #[.agg #[.int .i64 4,.int .i64 0,.int .i64 2,.int .i64 3,.bool false,.slice (some ⟨gw,0,none⟩) 8 cw,.int .i64 2,.slice none 0 0,.slice fa 0 fc,.slice (some ⟨gs,0,none⟩) 2 cs]] W' fun e w'=> ∃A c,e=.returned (.tuple #[.slice A 1 c,.int .i64 0])∧Only nob W' w' from fun W' o=>by
  have hc:=C.values lS _ _ _ _ N W' (HK.out W' o).1 (HK.out W' o).2.1 ZpD.1 (HK.out W' o).2.2 ZbX.1;rw[Ztb,ZeW.1] at hc;refine hc.mono ?_;rintro e w' ⟨v,rfl,hs,o⟩;obtain⟨A,c,rfl, -⟩:=hs.form
  exact⟨A,c,rfl,o⟩)
 have HCY:=ZZ (show ∀W',Only nob W5 W'→Calls Tryz.prog 24 #[.agg #[.int .i64 4,.int .i64 0,.int .i64 2,.int .i64 3,.bool false,.slice (some ⟨gw,0,none⟩) 8 cw,.int .i64 2,.slice none 0 0,.slice fa 0 fc,.slice (some ⟨gs,0,none⟩) 2 cs]] W' fun e w'=> ∃dw mw dt mt df mf ds ms,e=.returned (.agg #[.int .i64 4,.int .i64 0,.int .i64 2,.int .i64 3,.bool false,.slice dw 8 mw,.int .i64 2,.slice dt 0 mt,.slice df 0 mf,.slice ds 2 ms])∧Own4 w' W'.heap.size lS (.slice dw 8 mw) (.slice dt 0 mt) (.slice df 0 mf) (.slice ds 2 ms)∧Only nob W' w' from fun W' o=>by
  have hc:=CY lS _ _ _ _ N W' (HK.out W' o).1 (HK.out W' o).2.1 ZpD.1;refine hc.mono ?_;rintro e w' ⟨uw,ut,uf,us,rfl,hO,o⟩;obtain⟨qw,qa,rfl, -, -⟩:=Zi hO.words;obtain⟨qt,qb,rfl, -, -⟩:=Zi hO.tab;obtain⟨qf,qc,rfl, -, -⟩:=Zi hO.free;obtain⟨qs,qd,rfl, -, -⟩:=Zi hO.slots
  exact⟨qw,qa,qt,qb,qf,qc,qs,qd,rfl,hO,o⟩)
 obtain⟨c0,c1,c2,c3,c4,c5,c6,c7,c8,c9⟩:=HCL.out W5 (Only.refl nob W5)
 go_wp2_with fail
 go_at_call 8;refine(HLF.out W5 (Only.refl nob W5)).mono ?_;rintro e z ⟨An,cn,Ar,cr,js,Al,cl,rfl,rd,o⟩;obtain⟨Y,hY,HYB⟩:=ZG z (.slice An 1 cn) (.slice Ar 1 cr);have HY:=ZZ hY
 obtain⟨gb,hgb⟩: ∃g,g=z.heap.size:=⟨_,rfl⟩
 have HGB:=ZZ hgb;have BG:=ZZ HYB.out.2;rw[← hgb] at BG;have OY:=ZZ (o.trans HYB.out.1);have RG:=ZZ ((rd.only HYB.out.1 (Yj _)).more HYB.out.1.size);clear rd o hY hgb c0 c1 c2 c3 c4 c5 c6 c7 c8 c9;obtain⟨c0,c1,c2,c3,c4,c5,c6,c7,c8,c9⟩:=HCL.out Y OY.out
 go_upto_region 9 with fail
 rw[HY.out, ← HGB.out]
 go_wp2_with fail
 go_at_call 12;refine(HLV.out Y OY.out).mono ?_;rintro e Z ⟨rfl,o⟩;have OZ:=ZZ (OY.out.trans o);have RG:=ZZ ((RG.out.only o (Yj _)).more o.size);have BG:=ZZ (BG.out.keep o id);clear o c0 c1 c2 c3 c4 c5 c6 c7 c8 c9;obtain⟨c0,c1,c2,c3,c4,c5,c6,c7,c8,c9⟩:=HCL.out Z OZ.out
 go_wp2_with fail
 go_at_call 10;refine(HVL.out Z OZ.out).mono ?_;rintro e Q ⟨Av,cv,rfl,o⟩;have OQ:=ZZ (OZ.out.trans o);have RG:=ZZ ((RG.out.only o (Yj _)).more o.size);have BG:=ZZ (BG.out.keep o id);clear o c0 c1 c2 c3 c4 c5 c6 c7 c8 c9;obtain⟨c0,c1,c2,c3,c4,c5,c6,c7,c8,c9⟩:=HCL.out Q OQ.out
 go_wp2_with fail
 go_at_call 24;refine(HCY.out Q OQ.out).mono ?_;rintro e w6 ⟨dw,mw,dt,mt,df,mf,ds,ms,rfl,hO,o⟩
 obtain⟨W6,hW6,HB6⟩: ∃W6,w6.alloc (.cells #[.int .i64 4,.int .i64 0,.int .i64 2,.int .i64 3,.bool false,.slice dw 8 mw,.int .i64 2,.slice dt 0 mt,.slice df 0 mf,.slice ds 2 ms] 28)=W6∧Hid (Only nob w6 W6∧Blk W6 w6.heap.size 28 #[.int .i64 4,.int .i64 0,.int .i64 2,.int .i64 3,.bool false,.slice dw 8 mw,.int .i64 2,.slice dt 0 mt,.slice df 0 mf,.slice ds 2 ms]):=⟨_,rfl,ZZ ⟨(Only.refl nob w6).alloc _,Blk.new _ _ _⟩⟩
 have HW6:=ZZ hW6
 obtain⟨p2,hp2⟩: ∃q,q=w6.heap.size:=⟨_,rfl⟩
 have HP2:=ZZ hp2;have B6:=ZZ HB6.out.2;rw[← hp2] at B6;have N6:=ZZ (o.trans HB6.out.1);have O6:=ZZ (OQ.out.trans N6.out);have HO6:=ZZ (hO.keep HB6.out.1)
 obtain⟨W7,hW7,o7,B7⟩: ∃W7,W6.setCell ⟨p2,6,none⟩ (.int .i64 1)=W7∧Only (isb p2) W6 W7∧Blk W7 p2 28 #[.int .i64 4,.int .i64 0,.int .i64 2,.int .i64 3,.bool false,.slice dw 8 mw,.int .i64 1,.slice dt 0 mt,.slice df 0 mf,.slice ds 2 ms]:=⟨_,rfl,Zd _ _ _ _,by simpa using B6.out.put 6 (.int .i64 1)⟩
 have HW7:=ZZ hW7;have B7:=ZZ B7
 have hq2:Q.heap.size≤p2:=by rw[hp2];exact o.size
 have N7:=ZZ (show Only nob Q W7 from N6.out.andThen o7 fun i hi e=>by unfold isb at e;omega);have O7:=ZZ (OQ.out.trans N7.out);have HO7:=ZZ (show Own4 W7 Q.heap.size lT (.slice dw 8 mw) (.slice dt 0 mt) (.slice df 0 mf) (.slice ds 2 ms) from⟨Zb HO6.out.words o7 (ZF B6.out HO6.out.words (by decide)),Zb HO6.out.tab o7 (ZF B6.out HO6.out.tab (by decide)),Zb HO6.out.free o7 (ZF B6.out HO6.out.free (by decide)),Zb HO6.out.slots o7 (ZF B6.out HO6.out.slots (by decide)),HO6.out.apart⟩);have RG7:=ZZ ((RG.out.only N7.out (Yj _)).more N7.out.size);have BG7:=ZZ (BG.out.keep N7.out id);have s6:W6.cell? ⟨p2,6,none⟩=some (.int .i64 2):=B6.out.cell 6;have sf6:=B6.out.free 6;clear hO o hW6 hp2 hW7 o7 c0 c1 c2 c3 c4 c5 c6 c7 c8 c9
 go_upto_region 12 with fail
 rw[HW6.out, ← HP2.out]
 go_upto_region 13 with fail
 rw[HW7.out];clear s6 sf6
 have HLT:=ZZ (show Calls Tryz.prog 8 #[.agg #[.int .i64 4,.int .i64 0,.int .i64 2,.int .i64 3,.bool false,.slice dw 8 mw,.int .i64 1,.slice dt 0 mt,.slice df 0 mf,.slice ds 2 ms]] W7 fun e w'=> ∃An cn n Ar cr m Al cl k,e=.returned (.tuple #[.agg #[.slice An n cn,.slice Ar m cr],.slice Al k cl,.int .i64 4])∧Only nob W7 w' from by
  have hc:=C.lift lT _ _ _ _ W7.heap.size W7 HO7.out.rd (Yj _) ZpD.2 (HPAR.out.old (O5.out.trans O7.out)) ZbX.2;rw[Zqw] at hc;refine hc.mono ?_;rintro e w' ⟨un,ur,js,v,rfl,rd,hs,o⟩;obtain⟨An,cn,rfl, -⟩:=rd.nodes.form;obtain⟨Ar,cr,rfl, -⟩:=rd.roots.form;obtain⟨Al,cl,rfl, -⟩:=hs.form
  exact⟨An,cn,_,Ar,cr,_,Al,cl,_,rfl,o⟩)
 obtain⟨e0,e1,e2,e3,e4,e5,e6,e7,e8,e9⟩:=(show W7.cell? ⟨p2,0,none⟩=some (.int .i64 4)∧W7.cell? ⟨p2,1,none⟩=some (.int .i64 0)∧W7.cell? ⟨p2,2,none⟩=some (.int .i64 2)∧W7.cell? ⟨p2,3,none⟩=some (.int .i64 3)∧W7.cell? ⟨p2,4,none⟩=some (.bool false)∧W7.cell? ⟨p2,5,none⟩=some (.slice dw 8 mw)∧W7.cell? ⟨p2,6,none⟩=some (.int .i64 1)∧W7.cell? ⟨p2,7,none⟩=some (.slice dt 0 mt)∧W7.cell? ⟨p2,8,none⟩=some (.slice df 0 mf)∧W7.cell? ⟨p2,9,none⟩=some (.slice ds 2 ms) from⟨B7.out.cell 0,B7.out.cell 1,B7.out.cell 2,B7.out.cell 3,B7.out.cell 4,B7.out.cell 5,B7.out.cell 6,B7.out.cell 7,B7.out.cell 8,B7.out.cell 9⟩)
 go_wp2_with fail
 go_at_call 8;refine HLT.out.mono ?_;rintro e w8 ⟨Bn,bn,n8,Br,br,m8,Bl,bl,k8,rfl,o8⟩;obtain⟨X,hX,HXB⟩:=ZG w8 (.slice Bn n8 bn) (.slice Br m8 br);have HX:=ZZ hX;have N8:=ZZ (o8.trans HXB.out.1);have OX:=ZZ (O7.out.trans N8.out);have RX:=ZZ ((RG7.out.only N8.out (Yj _)).more N8.out.size);have BX:=ZZ (BG7.out.keep N8.out id);have B8:=ZZ (B7.out.keep N8.out id);have HO8:=ZZ (HO7.out.keep N8.out);clear o8 hX e0 e1 e2 e3 e4 e5 e6 e7 e8 e9;obtain⟨bb,oo,fv,rv,hA, -, -,q0,q1,q2,hnd⟩:=RX.out.at_ (k:=0) (Below.refl _ _) (show lG.nd[0]? =some ⟨0,[(2,0)],[]⟩ from rfl)
 obtain⟨bf,of_,cf,hfv, -,u0,u1⟩:=(show ∃bf of_ cf,fv=.slice (some ⟨bf,of_,none⟩) 1 cf∧True∧X.cell? ⟨bf,of_,none⟩=some (.int .i64 2)∧X.cell? ⟨bf,of_+1,none⟩=some (.int .i64 0) from by
  obtain⟨Af,cf,e, -⟩:=hnd.fields.form;simp only at e;have hfs:=hnd.fields;simp only at hfs;rw[e] at hfs;obtain⟨b1,o1,rfl, -,t0,t1⟩:=sl_span (l:=[(2,0)]) (k:=0) hfs (Below.refl _ _) rfl
  exact⟨b1,o1,cf,e,trivial,t0,t1⟩)
 obtain⟨br0,or0,hAr, -,v0,v1⟩:=sl_span (l:=[(2,0)]) (k:=0) (show Sl X X.heap.size 2 (.slice Ar 1 cr) 1 (spc [(2,0)]) from RX.out.roots) (Below.refl _ _) rfl;subst hA hAr;subst hfv;simp only[Nat.zero_mul,Nat.add_zero] at q0 q1 q2 v0 v1;have g0:X.cell? ⟨gb,0,none⟩=some (.slice (some ⟨bb,oo,none⟩) 1 cn):=BX.out.cell 0;have g1:X.cell? ⟨gb,1,none⟩=some (.slice (some ⟨br0,or0,none⟩) 1 cr):=BX.out.cell 1;obtain⟨c0,c1,c2,c3,c4,c5,c6,c7,c8,c9⟩:=HCL.out X OX.out
 obtain⟨e0,e1,e2,e3,e4,e5,e6,e7,e8,e9⟩:=(show X.cell? ⟨p2,0,none⟩=some (.int .i64 4)∧X.cell? ⟨p2,1,none⟩=some (.int .i64 0)∧X.cell? ⟨p2,2,none⟩=some (.int .i64 2)∧X.cell? ⟨p2,3,none⟩=some (.int .i64 3)∧X.cell? ⟨p2,4,none⟩=some (.bool false)∧X.cell? ⟨p2,5,none⟩=some (.slice dw 8 mw)∧X.cell? ⟨p2,6,none⟩=some (.int .i64 1)∧X.cell? ⟨p2,7,none⟩=some (.slice dt 0 mt)∧X.cell? ⟨p2,8,none⟩=some (.slice df 0 mf)∧X.cell? ⟨p2,9,none⟩=some (.slice ds 2 ms) from⟨B8.out.cell 0,B8.out.cell 1,B8.out.cell 2,B8.out.cell 3,B8.out.cell 4,B8.out.cell 5,B8.out.cell 6,B8.out.cell 7,B8.out.cell 8,B8.out.cell 9⟩)
 have HA1:=ZZ (show Calls Tryz.prog 17 #[.agg #[.int .i64 4,.int .i64 0,.int .i64 2,.int .i64 3,.bool false,.slice (some ⟨gw,0,none⟩) 8 cw,.int .i64 2,.slice none 0 0,.slice fa 0 fc,.slice (some ⟨gs,0,none⟩) 2 cs],.agg #[.int .i64 4,.int .i64 0,.int .i64 2,.int .i64 3,.bool false,.slice (some ⟨gw,0,none⟩) 8 cw,.int .i64 2,.slice none 0 0,.slice fa 0 fc,.slice (some ⟨gs,0,none⟩) 2 cs]] X fun e w'=>e=.returned (.bool true)∧Only nob X w' from by
  have hc:=C.alike lS lS _ _ _ _ _ _ _ _ N X (HK.out X OX.out).1 (HK.out X OX.out).1 (HK.out X OX.out).2.1 ZpD.1 ZpD.1 (HK.out X OX.out).2.2 ZbX.1 ZbX.1;rw[ZoU.1] at hc
  exact hc)
 have HA2:=ZZ (show ∀W',Only nob X W'→Calls Tryz.prog 17 #[.agg #[.int .i64 4,.int .i64 0,.int .i64 2,.int .i64 3,.bool false,.slice (some ⟨gw,0,none⟩) 8 cw,.int .i64 2,.slice none 0 0,.slice fa 0 fc,.slice (some ⟨gs,0,none⟩) 2 cs],.agg #[.int .i64 4,.int .i64 0,.int .i64 2,.int .i64 3,.bool false,.slice dw 8 mw,.int .i64 1,.slice dt 0 mt,.slice df 0 mf,.slice ds 2 ms]] W' fun e w'=>e=.returned (.bool false)∧Only nob W' w' from fun W' o=>by
  have hc:=C.alike lS lT _ _ _ _ _ _ _ _ W'.heap.size W' ((HK.out W' (OX.out.trans o)).1.more (HK.out W' (OX.out.trans o)).2.1) (HO8.out.keep o).rd (Yj _) ZpD.1 ZpD.2 (HK.out W' (OX.out.trans o)).2.2 ZbX.1 ZbX.2;rw[ZoU.2] at hc
  exact hc)
 have HEQ: ∀w,(Op.equalIn 10000 63 (.agg #[.int .i64 2,.int .i64 0]) (.agg #[.int .i64 2,.int .i64 0])).run Tryz.prog w=.ok true w:=fun w=>by
  have hS:Tryz.prog.underlying 63=some (.struct (Tryz.prog.fieldsOf 63)):=by kernel_rfl
  rw[show(10000:Nat)=9999+1 from rfl,run_equalIn_agg w 9999 63 _ _ hS (by kernel_rfl)];simp only[Program.fieldsOf,Tryz.underlying63];go_simp
 clear hnd
 go_upto_region 14 with fail
 rw[HX.out]
 go_wp2_with fail
 go_at_call 17;refine HA1.out.mono ?_;rintro e w9 ⟨rfl,o9⟩;have N9:=ZZ o9;clear c0 c1 c2 c3 c4 c5 c6 c7 c8 c9 e0 e1 e2 e3 e4 e5 e6 e7 e8 e9 g0 g1 q0 q1 q2 u0 u1 v0 v1 HEQ o9;have B9:=ZZ (B8.out.keep N9.out id);obtain⟨c0,c1,c2,c3,c4,c5,c6,c7,c8,c9⟩:=HCL.out w9 (OX.out.trans N9.out)
 obtain⟨e0,e1,e2,e3,e4,e5,e6,e7,e8,e9⟩:=(show w9.cell? ⟨p2,0,none⟩=some (.int .i64 4)∧w9.cell? ⟨p2,1,none⟩=some (.int .i64 0)∧w9.cell? ⟨p2,2,none⟩=some (.int .i64 2)∧w9.cell? ⟨p2,3,none⟩=some (.int .i64 3)∧w9.cell? ⟨p2,4,none⟩=some (.bool false)∧w9.cell? ⟨p2,5,none⟩=some (.slice dw 8 mw)∧w9.cell? ⟨p2,6,none⟩=some (.int .i64 1)∧w9.cell? ⟨p2,7,none⟩=some (.slice dt 0 mt)∧w9.cell? ⟨p2,8,none⟩=some (.slice df 0 mf)∧w9.cell? ⟨p2,9,none⟩=some (.slice ds 2 ms) from⟨B9.out.cell 0,B9.out.cell 1,B9.out.cell 2,B9.out.cell 3,B9.out.cell 4,B9.out.cell 5,B9.out.cell 6,B9.out.cell 7,B9.out.cell 8,B9.out.cell 9⟩)
 go_wp2_with fail
 go_at_call 17;refine(HA2.out w9 N9.out).mono ?_;rintro e wF ⟨rfl,oF⟩;have OF:=ZZ (O5.out.trans (OX.out.trans (N9.out.trans oF)));clear c0 c1 c2 c3 c4 c5 c6 c7 c8 c9 e0 e1 e2 e3 e4 e5 e6 e7 e8 e9 oF;go_wp2;go_ret;exact⟨rfl,OF.out⟩
end Go.Proofs.YteieocddfnlmdaaGreatDoor
