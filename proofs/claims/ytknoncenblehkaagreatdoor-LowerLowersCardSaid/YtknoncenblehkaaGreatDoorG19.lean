/- The walk of LayoutTells, out of the contracts of package lay -/
import Derived.Test.YtknoncenblehkaaGreatDoorG18
set_option maxRecDepth 100000
set_option maxHeartbeats 32000000
set_option linter.unusedSimpArgs false
set_option linter.unusedVariables false
namespace Go.Proofs.YtknoncenblehkaaGreatDoor
open Go.RowKit Go.Sort
theorem Zd3 {c:Cf} (h:c.ok) (s:Bool): ∃a b:Int,((a=0∧b=c.semi)∨(a=c.semi∧b=0))∧Zj c s=(a,c.semi)∧cTo c s=(b,c.semi)∧Ze c=(if 0<c.large then(c.semi+c.semi,c.large) else(0,0))∧Zk c=c.semi+c.semi+c.large:=by
 have hl:Ze c=(if 0<c.large then(c.semi+c.semi,c.large) else(0,0)):=by
  unfold Ze
  have:=h.2.2.1
  by_cases hq:0<c.large
  · rw[if_pos hq,if_pos ⟨h,by omega⟩]
  · rw[if_neg hq,if_neg (fun q=>q.2 (by omega))]
 have hw:Zk c=c.semi+c.semi+c.large:=by unfold Zk;rw[if_pos h]
 cases s
 · exact⟨0,c.semi,.inl ⟨rfl,rfl⟩,by simp[Zj,Zal,h],by simp[cTo,Zj,Zal,h],hl,hw⟩
 · exact⟨c.semi,0,.inr ⟨rfl,rfl⟩,by simp[Zj,Zal,h],by simp[cTo,Zj,Zal,h],hl,hw⟩
theorem ZeX (a s:Int) (h:0≤a) (h1:1≤s) (h2:a≤100000) (h3:s≤100000):Sp.ok (a,s):=by unfold Sp.ok Za6;simp only;omega
def Zaf (n a b:Int):Bool:=decide (a≤n)&&decide (n≤b)
theorem ZfD {n a b:Int}:Zaf n a b=true↔a≤n∧n≤b:=by unfold Zaf;simp
theorem ZiQ (n a b:Int) (w:World):Calls Tryz.prog 83 #[.int .i64 n,.int .i64 a,.int .i64 b] w fun e w'=>e=.returned (.bool (Zaf n a b))∧w=w':=by
 by_cases h1:a≤n
 · by_cases h2:n≤b
   case' pos=>have HK:=ZZ (show Zaf n a b=true by unfold Zaf;simp[h1,h2])
   case' neg=>have HK:=ZZ (show Zaf n a b=false by unfold Zaf;simp[h2])
   all_goals
    go_enter Tryz.func83,Tryz.ntmps83
    go_wp2;go_ret;exact⟨Za (by rw[HK.out]),rfl⟩
 · have HK:=ZZ (show Zaf n a b=false by unfold Zaf;simp[h1])
   go_enter Tryz.func83,Tryz.ntmps83
   go_wp2;go_ret;exact⟨Za (by rw[HK.out]),rfl⟩
theorem ZaJ {n a b:Int} {v:Bool} (h:Zaf n a b=v):Hid (∀w:World,Calls Tryz.prog 83 #[.int .i64 n,.int .i64 a,.int .i64 b] w fun e w'=>e=.returned (.bool v)∧Only nob w w'):=by
 subst h
 exact fun w=>(ZiQ n a b w).mono fun _ _ ⟨h,e⟩=>⟨h,e▸Only.refl nob w⟩
theorem Zia (c:Cf):(Zaf c.semi 2 32768=false∧decide c.ok=false)∨(Zaf c.semi 2 32768=true∧Zaf c.large 0 32768=false∧decide c.ok=false)∨(Zaf c.semi 2 32768=true∧Zaf c.large 0 32768=true∧Zaf c.slots 1 1024=false∧decide c.ok=false)∨
 (Zaf c.semi 2 32768=true∧Zaf c.large 0 32768=true∧Zaf c.slots 1 1024=true∧Zaf c.limit 1 c.semi=decide c.ok):=by
 have e:decide c.ok=(Zaf c.semi 2 32768&&Zaf c.large 0 32768&&Zaf c.slots 1 1024&&Zaf c.limit 1 c.semi):=by
  rw[Bool.eq_iff_iff];simp only[decide_eq_true_eq,Bool.and_eq_true,ZfD];unfold Cf.ok;omega
 rw[e]
 cases Zaf c.semi 2 32768 <;> cases Zaf c.large 0 32768 <;> cases Zaf c.slots 1 1024 <;> simp
theorem Zbh:LyCheck:=by
 intro c w hc
 obtain⟨W,hWn,HB⟩: ∃W,(w.alloc (.cells #[.int .i64 c.semi,.int .i64 c.large,.int .i64 c.slots,.int .i64 c.limit] 23))=W∧Hid (Only nob w W∧CBox W w.heap.size c):=⟨_,rfl,ZN w c,CBox.new w c⟩
 have HWN:=ZZ hWn;clear hWn hc;have ways:=Zia c
 obtain⟨r,hr⟩: ∃r,decide c.ok=r:=⟨_,rfl⟩
 rw[hr] at ways ⊢;clear hr
 rcases ways with⟨h1,h⟩|⟨h1,h2,h⟩|⟨h1,h2,h3,h⟩|⟨h1,h2,h3,h4⟩
 · subst h
   replace h1:=ZaJ h1
   go_enter Tryz.func52,Tryz.ntmps52
   go_wp2_with fail
   rw[HWN.out];obtain⟨c0,c1,c2,c3⟩:=HB.out.2
   go_wp2_with fail
   go_at_call 83;refine(h1.out _).mono ?_;rintro e w1 ⟨rfl,o⟩;have O1:=ZZ (And.intro (HB.out.1.trans o) (HB.out.2.keep o));clear o c0 c1 c2 c3;obtain⟨c0,c1,c2,c3⟩:=O1.out.2;go_wp2;go_ret;exact⟨rfl,O1.out.1⟩
 · subst h
   replace h1:=ZaJ h1
   replace h2:=ZaJ h2
   go_enter Tryz.func52,Tryz.ntmps52
   go_wp2_with fail
   rw[HWN.out];obtain⟨c0,c1,c2,c3⟩:=HB.out.2
   go_wp2_with fail
   go_at_call 83;refine(h1.out _).mono ?_;rintro e w1 ⟨rfl,o⟩;have O1:=ZZ (And.intro (HB.out.1.trans o) (HB.out.2.keep o));clear o c0 c1 c2 c3;obtain⟨c0,c1,c2,c3⟩:=O1.out.2
   go_wp2_with fail
   go_at_call 83;refine(h2.out _).mono ?_;rintro e w2 ⟨rfl,o⟩;have O2:=ZZ (And.intro (O1.out.1.trans o) (O1.out.2.keep o));clear o c0 c1 c2 c3;obtain⟨c0,c1,c2,c3⟩:=O2.out.2;go_wp2;go_ret;exact⟨rfl,O2.out.1⟩
 · subst h
   replace h1:=ZaJ h1
   replace h2:=ZaJ h2
   replace h3:=ZaJ h3
   go_enter Tryz.func52,Tryz.ntmps52
   go_wp2_with fail
   rw[HWN.out];obtain⟨c0,c1,c2,c3⟩:=HB.out.2
   go_wp2_with fail
   go_at_call 83;refine(h1.out _).mono ?_;rintro e w1 ⟨rfl,o⟩;have O1:=ZZ (And.intro (HB.out.1.trans o) (HB.out.2.keep o));clear o c0 c1 c2 c3;obtain⟨c0,c1,c2,c3⟩:=O1.out.2
   go_wp2_with fail
   go_at_call 83;refine(h2.out _).mono ?_;rintro e w2 ⟨rfl,o⟩;have O2:=ZZ (And.intro (O1.out.1.trans o) (O1.out.2.keep o));clear o c0 c1 c2 c3;obtain⟨c0,c1,c2,c3⟩:=O2.out.2
   go_wp2_with fail
   go_at_call 83;refine(h3.out _).mono ?_;rintro e w3 ⟨rfl,o⟩;have O3:=ZZ (And.intro (O2.out.1.trans o) (O2.out.2.keep o));clear o c0 c1 c2 c3;obtain⟨c0,c1,c2,c3⟩:=O3.out.2;go_wp2;go_ret;exact⟨rfl,O3.out.1⟩
 · replace h1:=ZaJ h1
   replace h2:=ZaJ h2
   replace h3:=ZaJ h3
   replace h4:=ZaJ h4
   go_enter Tryz.func52,Tryz.ntmps52
   go_wp2_with fail
   rw[HWN.out];obtain⟨c0,c1,c2,c3⟩:=HB.out.2
   go_wp2_with fail
   go_at_call 83;refine(h1.out _).mono ?_;rintro e w1 ⟨rfl,o⟩;have O1:=ZZ (And.intro (HB.out.1.trans o) (HB.out.2.keep o));clear o c0 c1 c2 c3;obtain⟨c0,c1,c2,c3⟩:=O1.out.2
   go_wp2_with fail
   go_at_call 83;refine(h2.out _).mono ?_;rintro e w2 ⟨rfl,o⟩;have O2:=ZZ (And.intro (O1.out.1.trans o) (O1.out.2.keep o));clear o c0 c1 c2 c3;obtain⟨c0,c1,c2,c3⟩:=O2.out.2
   go_wp2_with fail
   go_at_call 83;refine(h3.out _).mono ?_;rintro e w3 ⟨rfl,o⟩;have O3:=ZZ (And.intro (O2.out.1.trans o) (O2.out.2.keep o));clear o c0 c1 c2 c3;obtain⟨c0,c1,c2,c3⟩:=O3.out.2
   go_wp2_with fail
   go_at_call 83;refine(h4.out _).mono ?_;rintro e w4 ⟨rfl,o⟩;have O4:=ZZ (And.intro (O3.out.1.trans o) (O3.out.2.keep o));clear o c0 c1 c2 c3;obtain⟨c0,c1,c2,c3⟩:=O4.out.2;go_wp2;go_ret;exact⟨rfl,O4.out.1⟩
theorem Zf3:LySmall:=by
 intro c n w hc hn
 obtain⟨W,hWn,HB⟩: ∃W,(w.alloc (.cells #[.int .i64 c.semi,.int .i64 c.large,.int .i64 c.slots,.int .i64 c.limit] 23))=W∧Hid (Only nob w W∧CBox W w.heap.size c):=⟨_,rfl,ZN w c,CBox.new w c⟩
 have HWN:=ZZ hWn;clear hWn;have A1:=fun w=>Zbh c w hc
 have ways:(decide c.ok=false∧ZX c n=false)∨(decide c.ok=true∧Zaf n 1 c.limit=ZX c n):=by
  unfold ZX;by_cases h:c.ok
  · refine .inr ⟨by simp[h],?_⟩
    rw[Bool.eq_iff_iff];simp[ZfD,h];omega
  · exact .inl ⟨by simp[h],by simp[h]⟩
 obtain⟨r,hr⟩: ∃r,ZX c n=r:=⟨_,rfl⟩
 rw[hr] at ways ⊢;clear hr hc hn
 rcases ways with⟨h,h'⟩|⟨h,h'⟩
 · rw[h] at A1
   subst h'
   replace A1:=ZZ A1
   clear h
   go_enter Tryz.func80,Tryz.ntmps80
   go_wp2_with fail
   rw[HWN.out];obtain⟨c0,c1,c2,c3⟩:=HB.out.2
   go_wp2_with fail
   go_at_call 52;refine(A1.out _).mono ?_;rintro e w1 ⟨rfl,o⟩;have O1:=ZZ (And.intro (HB.out.1.trans o) (HB.out.2.keep o));clear o c0 c1 c2 c3;obtain⟨c0,c1,c2,c3⟩:=O1.out.2;go_wp2;go_ret;exact⟨rfl,O1.out.1⟩
 · rw[h] at A1
   have I1:=ZaJ h';clear h'
   replace A1:=ZZ A1
   clear h
   go_enter Tryz.func80,Tryz.ntmps80
   go_wp2_with fail
   rw[HWN.out];obtain⟨c0,c1,c2,c3⟩:=HB.out.2
   go_wp2_with fail
   go_at_call 52;refine(A1.out _).mono ?_;rintro e w1 ⟨rfl,o⟩;have O1:=ZZ (And.intro (HB.out.1.trans o) (HB.out.2.keep o));clear o c0 c1 c2 c3;obtain⟨c0,c1,c2,c3⟩:=O1.out.2
   go_wp2_with fail
   go_at_call 83;refine(I1.out _).mono ?_;rintro e w2 ⟨rfl,o⟩;have O2:=ZZ (And.intro (O1.out.1.trans o) (O1.out.2.keep o));clear o c0 c1 c2 c3;obtain⟨c0,c1,c2,c3⟩:=O2.out.2;go_wp2;go_ret;exact⟨rfl,O2.out.1⟩
def ZfT:Array Value:=#[.int .i64 0,.int .i64 0,.int .i64 0,.int .i64 0,.int .i64 0,.int .i64 0]
theorem ZaF (w:World) (c:Cf): ∃W,(((w.alloc (.cells #[.int .i64 c.semi,.int .i64 c.large,.int .i64 c.slots,.int .i64 c.limit] 23)).alloc (.cells #[.int .i64 0,.int .i64 0,.int .i64 0,.int .i64 0,.int .i64 0,.int .i64 0] 140)).alloc (.cells #[.int .i64 0,.int .i64 0,.int .i64 0,.int .i64 0,.int .i64 0,.int .i64 0] 140))=W∧
 Hid (Only nob w W∧CBox W w.heap.size c∧Blk W (w.heap.size+1) 140 ZfT∧Blk W (w.heap.size+2) 140 ZfT):=
 ⟨_,rfl,((ZN w c).alloc _).alloc _,(CBox.new w c).keep (((Only.refl nob _).alloc _).alloc _),(Blk.newAt _ _ ZfT _ (by simp)).alloc _,Blk.newAt _ _ ZfT _ (by simp)⟩
theorem ZB {w:World} {b:Nat} {t:TypeId} {x0 x1 x2 x3 x4 x5:Value} (h:Blk w b t #[x0,x1,x2,x3,x4,x5]):w.cell? ⟨b,0,none⟩=some x0∧w.cell? ⟨b,1,none⟩=some x1∧w.cell? ⟨b,2,none⟩=some x2∧w.cell? ⟨b,3,none⟩=some x3∧w.cell? ⟨b,4,none⟩=some x4∧w.cell? ⟨b,5,none⟩=some x5∧
 w.frozen? ⟨b,0,none⟩=false∧w.frozen? ⟨b,1,none⟩=false∧w.frozen? ⟨b,2,none⟩=false∧w.frozen? ⟨b,3,none⟩=false∧w.frozen? ⟨b,4,none⟩=false∧w.frozen? ⟨b,5,none⟩=false:=
 ⟨h.cell 0,h.cell 1,h.cell 2,h.cell 3,h.cell 4,h.cell 5,h.free 0,h.free 1,h.free 2,h.free 3,h.free 4,h.free 5⟩
theorem ZL {w W:World} (o:Only nob w W) {p:Addr} (hp:w.heap.size≤p.block) (u:Value):Only nob w (W.setCell p u):=o.setCell (fun h=>absurd h (Nat.not_lt_of_le hp)) u
theorem Zdd {w W:World} (o:Only nob w W) {b b':Nat} {t:TypeId} {cs:Array Value} (hb:w.heap.size≤b) (hne:b≠b') (B:Blk W b' t cs) (l:List (Nat×Value)):
 ∃W4,l.foldl (fun W p=>W.setCell ⟨b,p.1,none⟩ p.2) W=W4∧Only nob w W4∧Blk W4 b' t cs:=by
 refine⟨_,rfl,?_⟩
 induction l generalizing W with
 |nil=>exact⟨o,B⟩
 |cons x l ih=>exact ih (ZL o hb _) (B.other hne _)
theorem Zc8 {w W:World} (o:Only nob w W) {b b':Nat} {t t':TypeId} {cs cs':Array Value} (hb:w.heap.size≤b) (hne:b≠b') (B:Blk W b t cs) (B':Blk W b' t' cs') (l:List (Nat×Value)):
 ∃W4,l.foldl (fun W p=>W.setCell ⟨b,p.1,none⟩ p.2) W=W4∧Only nob w W4∧Blk W4 b t (l.foldl (fun c p=>c.setIfInBounds p.1 p.2) cs)∧Blk W4 b' t' cs'∧ ∀p:Addr,p.block≠b→W4.cell? p=W.cell? p:=by
 refine⟨_,rfl,?_⟩
 induction l generalizing W cs with
 |nil=>exact⟨o,B,B',fun _ _=>rfl⟩
 |cons x l ih=>
  obtain⟨h1,h2,h3,h4⟩:=ih (ZL o hb x.2) (B.put x.1 x.2) (B'.other (p:=⟨b,x.1,none⟩) hne x.2);exact⟨h1,h2,h3,fun p hp=>(h4 p hp).trans (World.cell?_of_block (Below.heap_setCell W ⟨b,x.1,none⟩ x.2 p.block hp))⟩
theorem ZdY {w W:World} (o:Only nob w W) {b:Nat} {t:TypeId} (hb:w.heap.size≤b) (B:Blk W b t ZfT) (x0 x1 x2 x3 x4 x5:Value):
 ∃W4,((((((W.setCell ⟨b,0,none⟩ x0).setCell ⟨b,1,none⟩ x1).setCell ⟨b,2,none⟩ x2).setCell ⟨b,3,none⟩ x3).setCell ⟨b,4,none⟩ x4).setCell ⟨b,5,none⟩ x5)=W4∧Only nob w W4∧Blk W4 b t #[x0,x1,x2,x3,x4,x5]:=by
 refine⟨_,rfl,ZL (ZL (ZL (ZL (ZL (ZL o hb _) hb _) hb _) hb _) hb _) hb _,?_⟩;simpa[ZfT] using(((((B.put 0 x0).put 1 x1).put 2 x2).put 3 x3).put 4 x4).put 5 x5
def ZaI (c:Cf) (s:Bool):Value:=.agg #[.int .i64 (Zj c s).1,.int .i64 (Zj c s).2,.int .i64 (cTo c s).1,.int .i64 (cTo c s).2,.int .i64 (Ze c).1,.int .i64 (Ze c).2]
theorem Zkb {c:Cf} (h: ¬c.ok) (s:Bool):ZaI c s=.agg #[.int .i64 0,.int .i64 0,.int .i64 0,.int .i64 0,.int .i64 0,.int .i64 0]:=by
 unfold ZaI Zj cTo Zj Zal Ze
 cases s <;> simp[h]
theorem Zda {c:Cf} (h:c.ok) (s:Bool):ZaI c s=.agg #[.int .i64 (if s then c.semi else 0),.int .i64 c.semi,.int .i64 (if s then 0 else c.semi),.int .i64 c.semi,.int .i64 (if 0<c.large then 2 * c.semi else 0),.int .i64 (if 0<c.large then c.large else 0)]:=by
 have hl:Ze c=(if 0<c.large then 2 * c.semi else 0,if 0<c.large then c.large else 0):=by
  unfold Ze;have h2:=h.2.2.1;by_cases hq:0<c.large
  · rw[if_pos hq,if_pos hq,if_pos ⟨h,by omega⟩];ext <;> simp;omega
  · rw[if_neg hq,if_neg hq,if_neg (fun q=>q.2 (by omega))]
 unfold ZaI;rw[hl];unfold cTo Zj Zal
 cases s <;> simp[h]
theorem Zld (c:Cf) (s:Bool) (w:World) (hc:CFit c) (hno: ¬c.ok):Calls Tryz.prog 85 #[.agg #[.int .i64 c.semi,.int .i64 c.large,.int .i64 c.slots,.int .i64 c.limit],.bool s] w fun e w'=>e=.returned (ZaI c s)∧Only nob w w':=by
 have A1:=fun w=>Zbh c w hc;obtain⟨W,hWn,HB⟩:=ZaF w c
 replace hWn:=ZZ hWn
 have HP:Hid (ZaI c s=.agg #[.int .i64 0,.int .i64 0,.int .i64 0,.int .i64 0,.int .i64 0,.int .i64 0]):=ZZ (by rw[Zkb hno]);rw[Yk hno] at A1
 replace A1:=ZZ A1
 clear hno hc
 go_enter Tryz.func85,Tryz.ntmps85
 go_wp2_with fail
 go_at_call 52;rw[hWn.out];refine(A1.out _).mono ?_;rintro e w1 ⟨rfl,o⟩;have O1:=ZZ (And.intro (HB.out.1.trans o) (And.intro (HB.out.2.1.keep o) (And.intro (HB.out.2.2.1.keep o id) (HB.out.2.2.2.keep o id))));clear o;obtain⟨c0,c1,c2,c3⟩:=O1.out.2.1;obtain⟨r0,r1,r2,r3,r4,r5,f0,f1,f2,f3,f4,f5⟩:=ZB O1.out.2.2.1;obtain⟨s0,s1,s2,s3,s4,s5,g0,g1,g2,g3,g4,g5⟩:=ZB O1.out.2.2.2;go_wp2;obtain⟨W5,hW5,O5,B5⟩:=Zdd O1.out.1 (b:=w.heap.size+1+1) (by omega) (by omega) O1.out.2.2.1 [];simp only[List.foldl] at hW5;rw[hW5];obtain⟨W4,hW4,O4,B4⟩:=ZdY O5 (by omega) B5 (.int .i64 0) (.int .i64 0) (.int .i64 0) (.int .i64 0) (.int .i64 0) (.int .i64 0)
 with_reducible rw[hW4]
 have h0:=B4.cell 0;have h1:=B4.cell 1;have h2:=B4.cell 2;have h3:=B4.cell 3;have h4:=B4.cell 4;have h5:=B4.cell 5;simp at h0 h1 h2 h3 h4 h5;exact bodyPost_ret (v:=.agg #[.int .i64 0,.int .i64 0,.int .i64 0,.int .i64 0,.int .i64 0,.int .i64 0]) (by simp[results,Tryz.results85,go_sem,h0,h1,h2,h3,h4,h5]) rfl ⟨by rw[HP.out],O4⟩
theorem Zla (c:Cf) (w:World) (hc:CFit c) (hno:c.ok) (hl: ¬0<c.large):Calls Tryz.prog 85 #[.agg #[.int .i64 c.semi,.int .i64 c.large,.int .i64 c.slots,.int .i64 c.limit],.bool false] w fun e w'=>e=.returned (ZaI c false)∧Only nob w w':=by
 have A1:=fun w=>Zbh c w hc;obtain⟨W,hWn,HB⟩:=ZaF w c
 replace hWn:=ZZ hWn
 have HP:Hid (ZaI c false=.agg #[.int .i64 0,.int .i64 c.semi,.int .i64 c.semi,.int .i64 c.semi,.int .i64 0,.int .i64 0]):=ZZ (by rw[Zda hno];simp[hl]);rw[Yl hno] at A1
 replace A1:=ZZ A1
 have b1:2≤c.semi∧c.semi≤32768:=by unfold Cf.ok at hno;omega
 have b2:0≤c.large∧c.large≤32768:=by unfold Cf.ok at hno;omega
 clear hno hc
 go_enter Tryz.func85,Tryz.ntmps85
 go_wp2_with fail
 go_at_call 52;rw[hWn.out];refine(A1.out _).mono ?_;rintro e w1 ⟨rfl,o⟩;have O1:=ZZ (And.intro (HB.out.1.trans o) (And.intro (HB.out.2.1.keep o) (And.intro (HB.out.2.2.1.keep o id) (HB.out.2.2.2.keep o id))));clear o;obtain⟨c0,c1,c2,c3⟩:=O1.out.2.1;obtain⟨r0,r1,r2,r3,r4,r5,f0,f1,f2,f3,f4,f5⟩:=ZB O1.out.2.2.1;obtain⟨s0,s1,s2,s3,s4,s5,g0,g1,g2,g3,g4,g5⟩:=ZB O1.out.2.2.2;go_wp2;obtain⟨W5,hW5,O5,B5⟩:=Zdd O1.out.1 (b:=w.heap.size+1+1) (by omega) (by omega) O1.out.2.2.1 [(0,.int .i64 0),(1,.int .i64 c.semi),(2,.int .i64 c.semi),(3,.int .i64 c.semi)];simp only[List.foldl] at hW5
 with_reducible rw[hW5]
 obtain⟨W4,hW4,O4,B4⟩:=ZdY O5 (by omega) B5 (.int .i64 0) (.int .i64 c.semi) (.int .i64 c.semi) (.int .i64 c.semi) (.int .i64 0) (.int .i64 0)
 with_reducible rw[hW4]
 have h0:=B4.cell 0;have h1:=B4.cell 1;have h2:=B4.cell 2;have h3:=B4.cell 3;have h4:=B4.cell 4;have h5:=B4.cell 5;simp at h0 h1 h2 h3 h4 h5;exact bodyPost_ret (v:=.agg #[.int .i64 0,.int .i64 c.semi,.int .i64 c.semi,.int .i64 c.semi,.int .i64 0,.int .i64 0]) (by simp[results,Tryz.results85,go_sem,h0,h1,h2,h3,h4,h5]) rfl ⟨by rw[HP.out],O4⟩
theorem Zmt (c:Cf) (w:World) (hc:CFit c) (hno:c.ok) (hl:0<c.large):Calls Tryz.prog 85 #[.agg #[.int .i64 c.semi,.int .i64 c.large,.int .i64 c.slots,.int .i64 c.limit],.bool false] w fun e w'=>e=.returned (ZaI c false)∧Only nob w w':=by
 have A1:=fun w=>Zbh c w hc;obtain⟨W,hWn,HB⟩:=ZaF w c
 replace hWn:=ZZ hWn
 have HP:Hid (ZaI c false=.agg #[.int .i64 0,.int .i64 c.semi,.int .i64 c.semi,.int .i64 c.semi,.int .i64 (2 * c.semi),.int .i64 c.large]):=ZZ (by rw[Zda hno];simp[hl]);rw[Yl hno] at A1
 replace A1:=ZZ A1
 have b1:2≤c.semi∧c.semi≤32768:=by unfold Cf.ok at hno;omega
 have b2:0≤c.large∧c.large≤32768:=by unfold Cf.ok at hno;omega
 clear hno hc
 go_enter Tryz.func85,Tryz.ntmps85
 go_wp2_with fail
 go_at_call 52;rw[hWn.out];refine(A1.out _).mono ?_;rintro e w1 ⟨rfl,o⟩;have O1:=ZZ (And.intro (HB.out.1.trans o) (And.intro (HB.out.2.1.keep o) (And.intro (HB.out.2.2.1.keep o id) (HB.out.2.2.2.keep o id))));clear o;obtain⟨c0,c1,c2,c3⟩:=O1.out.2.1;obtain⟨r0,r1,r2,r3,r4,r5,f0,f1,f2,f3,f4,f5⟩:=ZB O1.out.2.2.1;obtain⟨s0,s1,s2,s3,s4,s5,g0,g1,g2,g3,g4,g5⟩:=ZB O1.out.2.2.2;go_wp2;obtain⟨W5,hW5,O5,B5⟩:=Zdd O1.out.1 (b:=w.heap.size+1+1) (by omega) (by omega) O1.out.2.2.1 [(0,.int .i64 0),(1,.int .i64 c.semi),(2,.int .i64 c.semi),(3,.int .i64 c.semi),(4,.int .i64 (2 * c.semi)),(5,.int .i64 c.large)];simp only[List.foldl] at hW5
 with_reducible rw[hW5]
 obtain⟨W4,hW4,O4,B4⟩:=ZdY O5 (by omega) B5 (.int .i64 0) (.int .i64 c.semi) (.int .i64 c.semi) (.int .i64 c.semi) (.int .i64 (2 * c.semi)) (.int .i64 c.large)
 with_reducible rw[hW4]
 have h0:=B4.cell 0;have h1:=B4.cell 1;have h2:=B4.cell 2;have h3:=B4.cell 3;have h4:=B4.cell 4;have h5:=B4.cell 5;simp at h0 h1 h2 h3 h4 h5;exact bodyPost_ret (v:=.agg #[.int .i64 0,.int .i64 c.semi,.int .i64 c.semi,.int .i64 c.semi,.int .i64 (2 * c.semi),.int .i64 c.large]) (by simp[results,Tryz.results85,go_sem,h0,h1,h2,h3,h4,h5]) rfl ⟨by rw[HP.out],O4⟩
theorem Zmc (c:Cf) (w:World) (hc:CFit c) (hno:c.ok) (hl: ¬0<c.large):Calls Tryz.prog 85 #[.agg #[.int .i64 c.semi,.int .i64 c.large,.int .i64 c.slots,.int .i64 c.limit],.bool true] w fun e w'=>e=.returned (ZaI c true)∧Only nob w w':=by
 have A1:=fun w=>Zbh c w hc;obtain⟨W,hWn,HB⟩:=ZaF w c
 replace hWn:=ZZ hWn
 have HP:Hid (ZaI c true=.agg #[.int .i64 c.semi,.int .i64 c.semi,.int .i64 0,.int .i64 c.semi,.int .i64 0,.int .i64 0]):=ZZ (by rw[Zda hno];simp[hl]);rw[Yl hno] at A1
 replace A1:=ZZ A1
 have b1:2≤c.semi∧c.semi≤32768:=by unfold Cf.ok at hno;omega
 have b2:0≤c.large∧c.large≤32768:=by unfold Cf.ok at hno;omega
 clear hno hc
 go_enter Tryz.func85,Tryz.ntmps85
 go_wp2_with fail
 go_at_call 52;rw[hWn.out];refine(A1.out _).mono ?_;rintro e w1 ⟨rfl,o⟩;have O1:=ZZ (And.intro (HB.out.1.trans o) (And.intro (HB.out.2.1.keep o) (And.intro (HB.out.2.2.1.keep o id) (HB.out.2.2.2.keep o id))));clear o;obtain⟨c0,c1,c2,c3⟩:=O1.out.2.1;obtain⟨s0,s1,s2,s3,s4,s5,g0,g1,g2,g3,g4,g5⟩:=ZB O1.out.2.2.2
 go_upto_region 7 with fail
 obtain⟨W5,hW5,O5,B5a,B5r,K5⟩:=Zc8 O1.out.1 (b:=w.heap.size+1+1) (by omega) (by omega) O1.out.2.2.2 O1.out.2.2.1 [(0,.int .i64 0),(1,.int .i64 c.semi),(2,.int .i64 c.semi),(3,.int .i64 c.semi)];simp only[List.foldl] at hW5 B5a
 with_reducible rw[hW5]
 have B5:Blk W5 (w.heap.size+2) 140 #[.int .i64 0,.int .i64 c.semi,.int .i64 c.semi,.int .i64 c.semi,.int .i64 0,.int .i64 0]:=by simpa[ZfT] using B5a
 replace c0:=(K5 ⟨w.heap.size,0,none⟩ (by simp only[];omega)).trans c0
 replace c1:=(K5 ⟨w.heap.size,1,none⟩ (by simp only[];omega)).trans c1
 clear c2 c3 s0 s1 s2 s3 s4 s5 g0 g1 g2 g3 g4 g5 hW5 B5a K5;obtain⟨s0,s1,s2,s3,s4,s5,g0,g1,g2,g3,g4,g5⟩:=ZB B5
 replace O5:=ZZ O5
 replace B5r:=ZZ B5r
 replace B5:=ZZ B5
 go_upto_region 8 with fail
 obtain⟨W7,hW7,O7,B7a,B7r,K7⟩:=Zc8 O5.out (b:=w.heap.size+1+1) (by omega) (by omega) B5.out B5r.out [(0,.int .i64 c.semi),(1,.int .i64 c.semi),(2,.int .i64 0),(3,.int .i64 c.semi)];simp only[List.foldl] at hW7 B7a
 with_reducible rw[hW7]
 have B7:Blk W7 (w.heap.size+2) 140 #[.int .i64 c.semi,.int .i64 c.semi,.int .i64 0,.int .i64 c.semi,.int .i64 0,.int .i64 0]:=by simpa using B7a
 replace c0:=(K7 ⟨w.heap.size,0,none⟩ (by simp only[];omega)).trans c0
 replace c1:=(K7 ⟨w.heap.size,1,none⟩ (by simp only[];omega)).trans c1
 clear s0 s1 s2 s3 s4 s5 g0 g1 g2 g3 g4 g5 hW7 B7a K7;obtain⟨s0,s1,s2,s3,s4,s5,g0,g1,g2,g3,g4,g5⟩:=ZB B7;obtain⟨r0,r1,r2,r3,r4,r5,f0,f1,f2,f3,f4,f5⟩:=ZB B7r
 replace O7:=ZZ O7
 replace B7r:=ZZ B7r
 replace B7:=ZZ B7
 go_wp2;obtain⟨W4,hW4,O4,B4⟩:=ZdY O7.out (by omega) B7r.out (.int .i64 c.semi) (.int .i64 c.semi) (.int .i64 0) (.int .i64 c.semi) (.int .i64 0) (.int .i64 0)
 with_reducible rw[hW4]
 have h0:=B4.cell 0;have h1:=B4.cell 1;have h2:=B4.cell 2;have h3:=B4.cell 3;have h4:=B4.cell 4;have h5:=B4.cell 5;simp at h0 h1 h2 h3 h4 h5;exact bodyPost_ret (v:=.agg #[.int .i64 c.semi,.int .i64 c.semi,.int .i64 0,.int .i64 c.semi,.int .i64 0,.int .i64 0]) (by simp[results,Tryz.results85,go_sem,h0,h1,h2,h3,h4,h5]) rfl ⟨by rw[HP.out],O4⟩
theorem Zmu (c:Cf) (w:World) (hc:CFit c) (hno:c.ok) (hl:0<c.large):Calls Tryz.prog 85 #[.agg #[.int .i64 c.semi,.int .i64 c.large,.int .i64 c.slots,.int .i64 c.limit],.bool true] w fun e w'=>e=.returned (ZaI c true)∧Only nob w w':=by
 have A1:=fun w=>Zbh c w hc;obtain⟨W,hWn,HB⟩:=ZaF w c
 replace hWn:=ZZ hWn
 have HP:Hid (ZaI c true=.agg #[.int .i64 c.semi,.int .i64 c.semi,.int .i64 0,.int .i64 c.semi,.int .i64 (2 * c.semi),.int .i64 c.large]):=ZZ (by rw[Zda hno];simp[hl]);rw[Yl hno] at A1
 replace A1:=ZZ A1
 have b1:2≤c.semi∧c.semi≤32768:=by unfold Cf.ok at hno;omega
 have b2:0≤c.large∧c.large≤32768:=by unfold Cf.ok at hno;omega
 clear hno hc
 go_enter Tryz.func85,Tryz.ntmps85
 go_wp2_with fail
 go_at_call 52;rw[hWn.out];refine(A1.out _).mono ?_;rintro e w1 ⟨rfl,o⟩;have O1:=ZZ (And.intro (HB.out.1.trans o) (And.intro (HB.out.2.1.keep o) (And.intro (HB.out.2.2.1.keep o id) (HB.out.2.2.2.keep o id))));clear o;obtain⟨c0,c1,c2,c3⟩:=O1.out.2.1;obtain⟨s0,s1,s2,s3,s4,s5,g0,g1,g2,g3,g4,g5⟩:=ZB O1.out.2.2.2
 go_upto_region 7 with fail
 obtain⟨W5,hW5,O5,B5a,B5r,K5⟩:=Zc8 O1.out.1 (b:=w.heap.size+1+1) (by omega) (by omega) O1.out.2.2.2 O1.out.2.2.1 [(0,.int .i64 0),(1,.int .i64 c.semi),(2,.int .i64 c.semi),(3,.int .i64 c.semi)];simp only[List.foldl] at hW5 B5a
 with_reducible rw[hW5]
 have B5:Blk W5 (w.heap.size+2) 140 #[.int .i64 0,.int .i64 c.semi,.int .i64 c.semi,.int .i64 c.semi,.int .i64 0,.int .i64 0]:=by simpa[ZfT] using B5a
 replace c0:=(K5 ⟨w.heap.size,0,none⟩ (by simp only[];omega)).trans c0
 replace c1:=(K5 ⟨w.heap.size,1,none⟩ (by simp only[];omega)).trans c1
 clear c2 c3 s0 s1 s2 s3 s4 s5 g0 g1 g2 g3 g4 g5 hW5 B5a K5;obtain⟨s0,s1,s2,s3,s4,s5,g0,g1,g2,g3,g4,g5⟩:=ZB B5
 replace O5:=ZZ O5
 replace B5r:=ZZ B5r
 replace B5:=ZZ B5
 go_upto_region 8 with fail
 obtain⟨W7,hW7,O7,B7a,B7r,K7⟩:=Zc8 O5.out (b:=w.heap.size+1+1) (by omega) (by omega) B5.out B5r.out [(0,.int .i64 c.semi),(1,.int .i64 c.semi),(2,.int .i64 0),(3,.int .i64 c.semi)];simp only[List.foldl] at hW7 B7a
 with_reducible rw[hW7]
 have B7:Blk W7 (w.heap.size+2) 140 #[.int .i64 c.semi,.int .i64 c.semi,.int .i64 0,.int .i64 c.semi,.int .i64 0,.int .i64 0]:=by simpa using B7a
 replace c0:=(K7 ⟨w.heap.size,0,none⟩ (by simp only[];omega)).trans c0
 replace c1:=(K7 ⟨w.heap.size,1,none⟩ (by simp only[];omega)).trans c1
 clear s0 s1 s2 s3 s4 s5 g0 g1 g2 g3 g4 g5 hW7 B7a K7;obtain⟨s0,s1,s2,s3,s4,s5,g0,g1,g2,g3,g4,g5⟩:=ZB B7;obtain⟨r0,r1,r2,r3,r4,r5,f0,f1,f2,f3,f4,f5⟩:=ZB B7r
 replace O7:=ZZ O7
 replace B7r:=ZZ B7r
 replace B7:=ZZ B7
 go_wp2;obtain⟨W6,hW6,O6,B6⟩:=Zdd O7.out (b:=w.heap.size+1+1) (by omega) (by omega) B7r.out [(4,.int .i64 (2 * c.semi)),(5,.int .i64 c.large)];simp only[List.foldl] at hW6
 with_reducible rw[hW6]
 obtain⟨W4,hW4,O4,B4⟩:=ZdY O6 (by omega) B6 (.int .i64 c.semi) (.int .i64 c.semi) (.int .i64 0) (.int .i64 c.semi) (.int .i64 (2 * c.semi)) (.int .i64 c.large)
 with_reducible rw[hW4]
 have h0:=B4.cell 0;have h1:=B4.cell 1;have h2:=B4.cell 2;have h3:=B4.cell 3;have h4:=B4.cell 4;have h5:=B4.cell 5;simp at h0 h1 h2 h3 h4 h5;exact bodyPost_ret (v:=.agg #[.int .i64 c.semi,.int .i64 c.semi,.int .i64 0,.int .i64 c.semi,.int .i64 (2 * c.semi),.int .i64 c.large]) (by simp[results,Tryz.results85,go_sem,h0,h1,h2,h3,h4,h5]) rfl ⟨by rw[HP.out],O4⟩
theorem ZjX (c:Cf) (s:Bool) (w:World) (hc:CFit c):Calls Tryz.prog 85 #[.agg #[.int .i64 c.semi,.int .i64 c.large,.int .i64 c.slots,.int .i64 c.limit],.bool s] w fun e w'=>e=.returned (ZaI c s)∧Only nob w w':=by
 by_cases h:c.ok
 · by_cases hl:0<c.large <;> cases s
   · exact Zmt c w hc h hl
   · exact Zmu c w hc h hl
   · exact Zla c w hc h hl
   · exact Zmc c w hc h hl
 · exact Zld c s w hc h
theorem Zb5 (c:Cf) (s:Bool) (hc:CFit c): ∃x0 x1 x2 x3 x4 x5:Int,Zj c s=(x0,x1)∧cTo c s=(x2,x3)∧Ze c=(x4,x5)∧ ∀w:World,Calls Tryz.prog 85 #[.agg #[.int .i64 c.semi,.int .i64 c.large,.int .i64 c.slots,.int .i64 c.limit],.bool s] w fun e w'=>e=.returned (.agg #[.int .i64 x0,.int .i64 x1,.int .i64 x2,.int .i64 x3,.int .i64 x4,.int .i64 x5])∧Only nob w w':=
 ⟨_,_,_,_,_,_,rfl,rfl,rfl,fun w=>ZjX c s w hc⟩
theorem ZpV (x0 x1 x2 x3 x4 x5:Int):
 (∀w:World,(Instr.index 140 (.agg #[.int .i64 x0,.int .i64 x1,.int .i64 x2,.int .i64 x3,.int .i64 x4,.int .i64 x5]) (.int .i64 0)).run Tryz.prog w=.ok (.agg #[.int .i64 x0,.int .i64 x1]) w)∧
 (∀w:World,(Instr.index 140 (.agg #[.int .i64 x0,.int .i64 x1,.int .i64 x2,.int .i64 x3,.int .i64 x4,.int .i64 x5]) (.int .i64 1)).run Tryz.prog w=.ok (.agg #[.int .i64 x2,.int .i64 x3]) w)∧
 (∀w:World,(Instr.index 140 (.agg #[.int .i64 x0,.int .i64 x1,.int .i64 x2,.int .i64 x3,.int .i64 x4,.int .i64 x5]) (.int .i64 2)).run Tryz.prog w=.ok (.agg #[.int .i64 x4,.int .i64 x5]) w):=
 ⟨fun _=>by kernel_rfl,fun _=>by kernel_rfl,fun _=>by kernel_rfl⟩
theorem Zmx:LyFrom:=by
 intro c s w hc;have o2:=ZZ ((ZN w c).alloc (.cells #[.int .i64 0,.int .i64 0] 61));have b2:=ZZ (Blk.newAt (w.alloc (.cells #[.int .i64 c.semi,.int .i64 c.large,.int .i64 c.slots,.int .i64 c.limit] 23)) 61 #[.int .i64 0,.int .i64 0] (w.heap.size+1) (by simp));obtain⟨x0,x1,x2,x3,x4,x5,e0,e1,e2,HC⟩:=Zb5 c s hc;rw[e0]
 replace HC:=ZZ HC
 clear e0 e1 e2 hc
 go_enter Tryz.func79,Tryz.ntmps79
 go_wp2_with fail
 go_at_call 85;refine(HC.out _).mono ?_;rintro e w1 ⟨rfl,o⟩;have O1:=ZZ (o2.out.trans o);have B1:=ZZ (b2.out.keep o id);have g0:w1.cell? ⟨w.heap.size+1,0,none⟩=some (.int .i64 0):=B1.out.cell 0;have g1:w1.cell? ⟨w.heap.size+1,1,none⟩=some (.int .i64 0):=B1.out.cell 1;have g2:=B1.out.free 0;have g3:=B1.out.free 1;clear o;obtain⟨i0,i1,i2⟩:=ZpV x0 x1 x2 x3 x4 x5;go_wp2;obtain⟨W4,hW4,O4,h0,h1⟩:=Zaz O1.out (by omega) B1.out x0 x1;rw[hW4];exact bodyPost_ret (v:=.agg #[.int .i64 x0,.int .i64 x1]) (by simp[results,Tryz.results79,go_sem,h0,h1]) rfl ⟨rfl,O4⟩
theorem Zf8:LyLarge:=by
 intro c w hc;have o2:=ZZ ((ZN w c).alloc (.cells #[.int .i64 0,.int .i64 0] 61));have b2:=ZZ (Blk.newAt (w.alloc (.cells #[.int .i64 c.semi,.int .i64 c.large,.int .i64 c.slots,.int .i64 c.limit] 23)) 61 #[.int .i64 0,.int .i64 0] (w.heap.size+1) (by simp));obtain⟨x0,x1,x2,x3,x4,x5,e0,e1,e2,HC⟩:=Zb5 c false hc;rw[e2]
 replace HC:=ZZ HC
 clear e0 e1 e2 hc
 go_enter Tryz.func56,Tryz.ntmps56
 go_wp2_with fail
 go_at_call 85;refine(HC.out _).mono ?_;rintro e w1 ⟨rfl,o⟩;have O1:=ZZ (o2.out.trans o);have B1:=ZZ (b2.out.keep o id);have g0:w1.cell? ⟨w.heap.size+1,0,none⟩=some (.int .i64 0):=B1.out.cell 0;have g1:w1.cell? ⟨w.heap.size+1,1,none⟩=some (.int .i64 0):=B1.out.cell 1;have g2:=B1.out.free 0;have g3:=B1.out.free 1;clear o;obtain⟨i0,i1,i2⟩:=ZpV x0 x1 x2 x3 x4 x5;go_wp2;obtain⟨W4,hW4,O4,h0,h1⟩:=Zaz O1.out (by omega) B1.out x4 x5;rw[hW4];exact bodyPost_ret (v:=.agg #[.int .i64 x4,.int .i64 x5]) (by simp[results,Tryz.results56,go_sem,h0,h1]) rfl ⟨rfl,O4⟩
theorem ZbC (c:Cf) (s:Bool):Fit (Zj c s)∧Fit (cTo c s)∧Fit (Ze c):=by
 by_cases h:c.ok
 · obtain⟨a,b,hab,e0,e1,e2, -⟩:=Zd3 h s
   unfold Cf.ok at h;rw[e0,e1,e2]
   refine⟨?_,?_,?_⟩ <;> unfold Fit
   · simp only[];omega
   · simp only[];omega
   · split <;> simp only[] <;> omega
 · unfold cTo Zj Zal Ze
   cases s <;> simp[h,Fit]
theorem ZjR (c:Cf):Za2 [Zj c false,cTo c false,Ze c]=Zk c:=by
 by_cases h:c.ok
 · obtain⟨a,b,hab,e0,e1,e2,e3⟩:=Zd3 h false
   have hc:=h;unfold Cf.ok at hc;rw[e0,e1,e2,e3];have o0:Sp.ok (a,c.semi):=ZeX _ _ (by omega) (by omega) (by omega) (by omega);have o1:Sp.ok (b,c.semi):=ZeX _ _ (by omega) (by omega) (by omega) (by omega)
   have ht:tot [(a,c.semi),(b,c.semi),if 0<c.large then(c.semi+c.semi,c.large) else(0,0)]=c.semi+c.semi+c.large:=by
    simp only[tot,if_pos o0,if_pos o1];by_cases hl:0<c.large
    · have o2:Sp.ok (c.semi+c.semi,c.large):=ZeX _ _ (by omega) (by omega) (by omega) (by omega)
      rw[if_pos hl,if_pos o2];omega
    · rw[if_neg hl,if_neg (fun q=>by have:=q.2.1;simp at this)];omega
   unfold Za2 Zea;rw[ht,if_pos (by omega)]
 · have e:Zj c false=(0,0)∧cTo c false=(0,0)∧Ze c=(0,0):=by
    unfold cTo Zj Zal Ze;simp[h]
   have hz: ¬Sp.ok (0,0):=fun q=>by have:=q.2.1;simp at this
   rw[e.1,e.2.1,e.2.2];unfold Zk Za2 tot tot tot tot Zea;simp[h,hz]
theorem Zkt (hTo:SpTotal):LyWords:=by
 intro c w hc;obtain⟨x0,x1,x2,x3,x4,x5,e0,e1,e2,HC⟩:=Zb5 c false hc;have ht:=ZjR c;obtain⟨f0,f1,f2⟩:=ZbC c false;rw[e0,e1,e2] at ht;rw[e0] at f0;rw[e1] at f1;rw[e2] at f2;rw[← ht]
 have HF:Hid (ZfO [(x0,x1),(x2,x3),(x4,x5)]):=fun z hz=>by
  simp only[List.mem_cons,List.not_mem_nil,or_false] at hz
  rcases hz with rfl|rfl|rfl <;> assumption
 replace HC:=ZZ HC
 have HB:=ZZ (ZN w c);have HCB:=ZZ (CBox.new w c);clear e0 e1 e2 ht f0 f1 f2 hc
 obtain⟨l,hl⟩: ∃l:List Sp,l=[(x0,x1),(x2,x3),(x4,x5)]:=⟨_,rfl⟩
 rw[← hl]
 replace hl:=ZZ hl
 go_enter Tryz.func54,Tryz.ntmps54
 go_wp2_with fail
 go_at_call 85;refine(HC.out _).mono ?_;rintro e w1 ⟨rfl,o⟩;have O1:=ZZ (HB.out.trans o);clear o
 go_wp2_with fail
 go_at_call 86
 have hs:Sl (w1.alloc (.cells #[.int .i64 x0,.int .i64 x1,.int .i64 x2,.int .i64 x3,.int .i64 x4,.int .i64 x5] 140)) (w1.alloc (.cells #[.int .i64 x0,.int .i64 x1,.int .i64 x2,.int .i64 x3,.int .i64 x4,.int .i64 x5] 140)).heap.size 2 (.slice (some ⟨w1.heap.size,0,none⟩) 3 3) 3 (spc [(x0,x1),(x2,x3),(x4,x5)]):=
  Sl.of_blk (Blk.new w1 140 _) (by simp) (Yi _) (by decide)
 refine(hTo _ [(x0,x1),(x2,x3),(x4,x5)] _ _ hs (Yi _) (by simp) HF).mono ?_;rintro e w2 ⟨rfl,o⟩;rw[← hl.out];have O2:=ZZ ((O1.out.alloc _).trans o);clear o hs;go_wp2;go_ret;exact⟨rfl,O2.out⟩
end Go.Proofs.YtknoncenblehkaaGreatDoor
