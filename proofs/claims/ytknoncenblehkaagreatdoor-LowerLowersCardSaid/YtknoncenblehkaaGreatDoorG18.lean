/- Configs and their parts, plainly; what is asked of package l Contracts of the document's own answers for layouts. -/
import Derived.Test.YtknoncenblehkaaGreatDoorG08
import Derived.Test.YtknoncenblehkaaGreatDoorG05
set_option maxRecDepth 100000
set_option maxHeartbeats 32000000
set_option linter.unusedSimpArgs false
set_option linter.unusedVariables false
namespace Go.Proofs.YtknoncenblehkaaGreatDoor
open Go.RowKit
structure Cf where
 semi:Int
 large:Int
 slots:Int
 limit:Int
def Cf.ok (c:Cf):Prop:=2≤c.semi∧c.semi≤32768∧0≤c.large∧c.large≤32768∧1≤c.slots∧c.slots≤1024∧1≤c.limit∧c.limit≤c.semi
instance (c:Cf):Decidable c.ok:=by unfold Cf.ok;infer_instance
def Zk (c:Cf):Int:=if c.ok then c.semi+c.semi+c.large else 0
def Zal (c:Cf) (n:Int):Sp:=if c.ok then(n * c.semi,c.semi) else(0,0)
def Zj (c:Cf) (s:Bool):Sp:=if s then Zal c 1 else Zal c 0
def cTo (c:Cf) (s:Bool):Sp:=Zj c (!s)
def Ze (c:Cf):Sp:=if c.ok∧c.large≠0 then(c.semi+c.semi,c.large) else(0,0)
def ZX (c:Cf) (n:Int):Bool:=decide c.ok&&(decide (0<n)&&decide (n≤c.limit))
def I64 (z:Int):Prop:= -9223372036854775808≤z∧z≤9223372036854775807
structure CFit (c:Cf):Prop where
 fa:I64 c.semi
 fb:I64 c.large
 fc:I64 c.slots
 fd:I64 c.limit
def LyCheck:Prop:= ∀(c:Cf) (w:World),CFit c→Calls Tryz.prog 52 #[.agg #[.int .i64 c.semi,.int .i64 c.large,.int .i64 c.slots,.int .i64 c.limit]] w fun e w'=>e=.returned (.bool (decide c.ok))∧Only nob w w'
def LyWords:Prop:= ∀(c:Cf) (w:World),CFit c→Calls Tryz.prog 54 #[.agg #[.int .i64 c.semi,.int .i64 c.large,.int .i64 c.slots,.int .i64 c.limit]] w fun e w'=>e=.returned (.int .i64 (Zk c))∧Only nob w w'
def LyFrom:Prop:= ∀(c:Cf) (s:Bool) (w:World),CFit c→Calls Tryz.prog 79 #[.agg #[.int .i64 c.semi,.int .i64 c.large,.int .i64 c.slots,.int .i64 c.limit],.bool s] w fun e w'=>e=.returned (.agg #[.int .i64 (Zj c s).1,.int .i64 (Zj c s).2])∧Only nob w w'
def LyLarge:Prop:= ∀(c:Cf) (w:World),CFit c→Calls Tryz.prog 56 #[.agg #[.int .i64 c.semi,.int .i64 c.large,.int .i64 c.slots,.int .i64 c.limit]] w fun e w'=>e=.returned (.agg #[.int .i64 (Ze c).1,.int .i64 (Ze c).2])∧Only nob w w'
def LySmall:Prop:= ∀(c:Cf) (n:Int) (w:World),CFit c→I64 n→Calls Tryz.prog 80 #[.agg #[.int .i64 c.semi,.int .i64 c.large,.int .i64 c.slots,.int .i64 c.limit],.int .i64 n] w fun e w'=>e=.returned (.bool (ZX c n))∧Only nob w w'
structure CBox (W:World) (b:Nat) (c:Cf):Prop where
 c0:W.cell? ⟨b,0,none⟩=some (.int .i64 c.semi)
 c1:W.cell? ⟨b,1,none⟩=some (.int .i64 c.large)
 c2:W.cell? ⟨b,2,none⟩=some (.int .i64 c.slots)
 c3:W.cell? ⟨b,3,none⟩=some (.int .i64 c.limit)
theorem CBox.keep {W W':World} {b:Nat} {c:Cf} (h:CBox W b c) (o:Only nob W W'):CBox W' b c:=⟨o.keeps h.c0,o.keeps h.c1,o.keeps h.c2,o.keeps h.c3⟩
theorem CBox.new (w:World) (c:Cf):CBox (w.alloc (.cells #[.int .i64 c.semi,.int .i64 c.large,.int .i64 c.slots,.int .i64 c.limit] 23)) w.heap.size c:=by
 have h:=Blk.new w 23 #[.int .i64 c.semi,.int .i64 c.large,.int .i64 c.slots,.int .i64 c.limit];exact⟨h.cell 0,h.cell 1,h.cell 2,h.cell 3⟩
theorem ZN (w:World) (c:Cf):Only nob w (w.alloc (.cells #[.int .i64 c.semi,.int .i64 c.large,.int .i64 c.slots,.int .i64 c.limit] 23)):=(Only.refl nob w).alloc _
theorem ZaN (c:Cf) (w:World):Calls Tryz.prog 26 #[.agg #[.int .i64 c.semi,.int .i64 c.large,.int .i64 c.slots,.int .i64 c.limit]] w fun e w'=>e=.returned (.bool (decide c.ok))∧Only nob w w':=by
 obtain⟨b,hb⟩: ∃b,decide c.ok=b:=⟨_,rfl⟩
 rw[hb];have HB:=ZZ hb;clear hb
 go_enter Tryz.func26,Tryz.ntmps26
 go_wp2
 all_goals go_ret
 all_goals
  refine⟨Za ?_,(Only.refl nob w).alloc _⟩;rw[← HB.out]
  first
   |exact(Yk (by unfold Cf.ok;omega)).symm
   |exact decide_eq_decide.2 ⟨fun hq=>by unfold Cf.ok;omega,fun hq=>by unfold Cf.ok at hq;omega⟩
   |(by_cases hq:c.limit≤c.semi;exact(Yl (by unfold Cf.ok;omega)).symm)
theorem ZP {c:Cf} (h:c.ok) (w:World):Calls Tryz.prog 26 #[.agg #[.int .i64 c.semi,.int .i64 c.large,.int .i64 c.slots,.int .i64 c.limit]] w fun e w'=>e=.returned (.bool true)∧Only nob w w':=by
 have:=ZaN c w
 rwa [Yl h] at this
theorem Zba {c:Cf} (h: ¬c.ok) (w:World):Calls Tryz.prog 26 #[.agg #[.int .i64 c.semi,.int .i64 c.large,.int .i64 c.slots,.int .i64 c.limit]] w fun e w'=>e=.returned (.bool false)∧Only nob w w':=by
 have:=ZaN c w
 rwa [Yk h] at this
theorem Zfw (c:Cf) (w:World):Calls Tryz.prog 59 #[.agg #[.int .i64 c.semi,.int .i64 c.large,.int .i64 c.slots,.int .i64 c.limit]] w fun e w'=>e=.returned (.int .i64 (Zk c))∧Only nob w w':=by
 by_cases h:c.ok
 · have HE:=ZZ (show Zk c=c.semi+c.semi+c.large by unfold Zk;rw[if_pos h])
   have HO:=ZZ h;unfold Cf.ok at h
   go_enter Tryz.func59,Tryz.ntmps59
   go_wp2_with fail
   go_at_call 26;refine(ZP HO.out _).mono ?_;rintro e w1 ⟨rfl,o⟩;have HB:=ZZ ((CBox.new w c).keep o);have O1:=ZZ ((ZN w c).trans o);obtain⟨c0,c1,c2,c3⟩:=HB.out;clear o;go_wp2;go_ret;exact⟨ZbF (by rw[HE.out]),O1.out⟩
 · have HE:=ZZ (show Zk c=0 by unfold Zk;rw[if_neg h])
   have HO:=ZZ h;clear h
   go_enter Tryz.func59,Tryz.ntmps59
   go_wp2_with fail
   go_at_call 26;refine(Zba HO.out _).mono ?_;rintro e w1 ⟨rfl,o⟩;have O1:=ZZ ((ZN w c).trans o);clear o;go_wp2;go_ret;exact⟨ZbF (by rw[HE.out]),O1.out⟩
theorem Zaz {w W:World} (o:Only nob w W) {b:Nat} (hb:w.heap.size≤b) (B:Blk W b 61 #[.int .i64 0,.int .i64 0]) (x y:Int):
 ∃W4,((W.setCell ⟨b,0,none⟩ (.int .i64 x)).setCell ⟨b,1,none⟩ (.int .i64 y))=W4∧Only nob w W4∧W4.cell? ⟨b,0,none⟩=some (.int .i64 x)∧W4.cell? ⟨b,1,none⟩=some (.int .i64 y):=by
 have B4:Blk ((W.setCell ⟨b,0,none⟩ (.int .i64 x)).setCell ⟨b,1,none⟩ (.int .i64 y)) b 61 #[.int .i64 x,.int .i64 y]:=by simpa using(B.put 0 (.int .i64 x)).put 1 (.int .i64 y)
 exact⟨_,rfl,(o.setCell (p:=⟨b,0,none⟩) (fun h=>absurd h (Nat.not_lt_of_le hb)) _).setCell (p:=⟨b,1,none⟩) (fun h=>absurd h (Nat.not_lt_of_le hb)) _,B4.cell 0,B4.cell 1⟩
theorem Zd1 (c:Cf) (n:Int) (hn:n=0∨n=1) (w:World):Calls Tryz.prog 63 #[.agg #[.int .i64 c.semi,.int .i64 c.large,.int .i64 c.slots,.int .i64 c.limit],.int .i64 n] w fun e w'=>e=.returned (.agg #[.int .i64 (Zal c n).1,.int .i64 (Zal c n).2])∧Only nob w w':=by
 have o2:=ZZ ((ZN w c).alloc (.cells #[.int .i64 0,.int .i64 0] 61));have b2:=ZZ (Blk.newAt (w.alloc (.cells #[.int .i64 c.semi,.int .i64 c.large,.int .i64 c.slots,.int .i64 c.limit] 23)) 61 #[.int .i64 0,.int .i64 0] (w.heap.size+1) (by simp));have cb:=ZZ ((CBox.new w c).keep ((Only.refl nob _).alloc (.cells #[.int .i64 0,.int .i64 0] 61)));by_cases h:c.ok
 · have HE:=ZZ (show Zal c n=(n * c.semi,c.semi) by unfold Zal;rw[if_pos h])
   have HO:=ZZ h
   have hb:0≤n * c.semi∧n * c.semi≤32768:=by unfold Cf.ok at h;rcases hn with rfl|rfl <;> omega
   clear h
   go_enter Tryz.func63,Tryz.ntmps63
   go_wp2_with fail
   go_at_call 26;refine(ZP HO.out _).mono ?_;rintro e w1 ⟨rfl,o⟩;have O1:=ZZ (o2.out.trans o);have B1:=ZZ (b2.out.keep o id);obtain⟨c0,c1,c2,c3⟩:=cb.out.keep o;have g0:w1.cell? ⟨w.heap.size+1,0,none⟩=some (.int .i64 0):=B1.out.cell 0;have g1:w1.cell? ⟨w.heap.size+1,1,none⟩=some (.int .i64 0):=B1.out.cell 1;have g2:=B1.out.free 0;have g3:=B1.out.free 1;clear o;go_wp2;obtain⟨W4,hW4,O4,h0,h1⟩:=Zaz O1.out (by omega) B1.out (n * c.semi) c.semi;rw[hW4];exact bodyPost_ret (v:=.agg #[.int .i64 (n * c.semi),.int .i64 c.semi]) (by simp[results,Tryz.results63,go_sem,h0,h1]) rfl ⟨by rw[HE.out],O4⟩
 · have HE:=ZZ (show Zal c n=(0,0) by unfold Zal;rw[if_neg h])
   have HO:=ZZ h;clear h
   go_enter Tryz.func63,Tryz.ntmps63
   go_wp2_with fail
   go_at_call 26;refine(Zba HO.out _).mono ?_;rintro e w1 ⟨rfl,o⟩;have O1:=ZZ (o2.out.trans o);have B1:=ZZ (b2.out.keep o id);have g0:w1.cell? ⟨w.heap.size+1,0,none⟩=some (.int .i64 0):=B1.out.cell 0;have g1:w1.cell? ⟨w.heap.size+1,1,none⟩=some (.int .i64 0):=B1.out.cell 1;have g2:=B1.out.free 0;have g3:=B1.out.free 1;clear o;go_wp2;obtain⟨W4,hW4,O4,h0,h1⟩:=Zaz O1.out (by omega) B1.out 0 0;rw[hW4];exact bodyPost_ret (v:=.agg #[.int .i64 0,.int .i64 0]) (by simp[results,Tryz.results63,go_sem,h0,h1]) rfl ⟨by rw[HE.out],O4⟩
theorem ZgC (c:Cf) (s:Bool) (w:World):Calls Tryz.prog 28 #[.agg #[.int .i64 c.semi,.int .i64 c.large,.int .i64 c.slots,.int .i64 c.limit],.bool s] w fun e w'=>e=.returned (.agg #[.int .i64 (Zj c s).1,.int .i64 (Zj c s).2])∧Only nob w w':=by
 have o2:=ZZ ((ZN w c).alloc (.cells #[.int .i64 0,.int .i64 0] 61));have b2:=ZZ (Blk.newAt (w.alloc (.cells #[.int .i64 c.semi,.int .i64 c.large,.int .i64 c.slots,.int .i64 c.limit] 23)) 61 #[.int .i64 0,.int .i64 0] (w.heap.size+1) (by simp))
 obtain⟨x,hx⟩: ∃x,Zj c s=x:=⟨_,rfl⟩
 rw[hx]
 cases s
 case' false=>
  have HC:=Zd1 c 0 (.inl rfl);rw[show Zal c 0=x from hx] at HC
 case' true=>
  have HC:=Zd1 c 1 (.inr rfl);rw[show Zal c 1=x from hx] at HC
 all_goals
  replace HC:=ZZ HC
  clear hx
  go_enter Tryz.func28,Tryz.ntmps28
  go_wp2_with fail
  go_at_call 63;refine(HC.out _).mono ?_;rintro e w1 ⟨rfl,o⟩;have O1:=ZZ (o2.out.trans o);have B1:=ZZ (b2.out.keep o id);have g0:w1.cell? ⟨w.heap.size+1,0,none⟩=some (.int .i64 0):=B1.out.cell 0;have g1:w1.cell? ⟨w.heap.size+1,1,none⟩=some (.int .i64 0):=B1.out.cell 1;have g2:=B1.out.free 0;have g3:=B1.out.free 1;clear o;go_wp2;obtain⟨W4,hW4,O4,h0,h1⟩:=Zaz O1.out (by omega) B1.out x.1 x.2;rw[hW4];exact bodyPost_ret (v:=.agg #[.int .i64 x.1,.int .i64 x.2]) (by simp[results,Tryz.results28,go_sem,h0,h1]) rfl ⟨rfl,O4⟩
theorem ZcR (c:Cf) (w:World):Calls Tryz.prog 29 #[.agg #[.int .i64 c.semi,.int .i64 c.large,.int .i64 c.slots,.int .i64 c.limit]] w fun e w'=>e=.returned (.agg #[.int .i64 (Ze c).1,.int .i64 (Ze c).2])∧Only nob w w':=by
 have o2:=ZZ ((ZN w c).alloc (.cells #[.int .i64 0,.int .i64 0] 61));have b2:=ZZ (Blk.newAt (w.alloc (.cells #[.int .i64 c.semi,.int .i64 c.large,.int .i64 c.slots,.int .i64 c.limit] 23)) 61 #[.int .i64 0,.int .i64 0] (w.heap.size+1) (by simp));have cb:=ZZ ((CBox.new w c).keep ((Only.refl nob _).alloc (.cells #[.int .i64 0,.int .i64 0] 61)))
 have ways:(c.ok∧ ¬c.large=0∧(c.large==0)=false∧Ze c=(c.semi+c.semi,c.large))∨(c.ok∧c.large=0∧(c.large==0)=true∧Ze c=(0,0))∨(¬c.ok∧Ze c=(0,0)):=by
  unfold Ze;by_cases h:c.ok
  · by_cases hl:c.large=0
    · exact .inr (.inl ⟨h,hl,by simp[hl],by rw[if_neg (fun q=>q.2 hl)]⟩)
    · exact .inl ⟨h,hl,by simpa using hl,by rw[if_pos ⟨h,hl⟩]⟩
  · exact .inr (.inr ⟨h,by rw[if_neg (fun q=>h q.1)]⟩)
 rcases ways with⟨h, -,hl,HE⟩|⟨h, -,hl,HE⟩|⟨h,HE⟩
 · have HO:=ZZ h
   replace HE:=ZZ HE
   unfold Cf.ok at h
   go_enter Tryz.func29,Tryz.ntmps29
   go_wp2_with fail
   go_at_call 26;refine(ZP HO.out _).mono ?_;rintro e w1 ⟨rfl,o⟩;have O1:=ZZ (o2.out.trans o);have B1:=ZZ (b2.out.keep o id);obtain⟨c0,c1,c2,c3⟩:=cb.out.keep o;have g0:w1.cell? ⟨w.heap.size+1,0,none⟩=some (.int .i64 0):=B1.out.cell 0;have g1:w1.cell? ⟨w.heap.size+1,1,none⟩=some (.int .i64 0):=B1.out.cell 1;have g2:=B1.out.free 0;have g3:=B1.out.free 1;clear o;go_wp2;obtain⟨W4,hW4,O4,h0,h1⟩:=Zaz O1.out (by omega) B1.out (c.semi+c.semi) c.large;rw[hW4];exact bodyPost_ret (v:=.agg #[.int .i64 (c.semi+c.semi),.int .i64 c.large]) (by simp[results,Tryz.results29,go_sem,h0,h1]) rfl ⟨by rw[HE.out],O4⟩
 · have HO:=ZZ h
   replace HE:=ZZ HE
   unfold Cf.ok at h
   go_enter Tryz.func29,Tryz.ntmps29
   go_wp2_with fail
   go_at_call 26;refine(ZP HO.out _).mono ?_;rintro e w1 ⟨rfl,o⟩;have O1:=ZZ (o2.out.trans o);have B1:=ZZ (b2.out.keep o id);obtain⟨c0,c1,c2,c3⟩:=cb.out.keep o;have g0:w1.cell? ⟨w.heap.size+1,0,none⟩=some (.int .i64 0):=B1.out.cell 0;have g1:w1.cell? ⟨w.heap.size+1,1,none⟩=some (.int .i64 0):=B1.out.cell 1;have g2:=B1.out.free 0;have g3:=B1.out.free 1;clear o;go_wp2;obtain⟨W4,hW4,O4,h0,h1⟩:=Zaz O1.out (by omega) B1.out 0 0;rw[hW4];exact bodyPost_ret (v:=.agg #[.int .i64 0,.int .i64 0]) (by simp[results,Tryz.results29,go_sem,h0,h1]) rfl ⟨by rw[HE.out],O4⟩
 · have HO:=ZZ h
   replace HE:=ZZ HE
   clear h
   go_enter Tryz.func29,Tryz.ntmps29
   go_wp2_with fail
   go_at_call 26;refine(Zba HO.out _).mono ?_;rintro e w1 ⟨rfl,o⟩;have O1:=ZZ (o2.out.trans o);have B1:=ZZ (b2.out.keep o id);have g0:w1.cell? ⟨w.heap.size+1,0,none⟩=some (.int .i64 0):=B1.out.cell 0;have g1:w1.cell? ⟨w.heap.size+1,1,none⟩=some (.int .i64 0):=B1.out.cell 1;have g2:=B1.out.free 0;have g3:=B1.out.free 1;clear o;go_wp2;obtain⟨W4,hW4,O4,h0,h1⟩:=Zaz O1.out (by omega) B1.out 0 0;rw[hW4];exact bodyPost_ret (v:=.agg #[.int .i64 0,.int .i64 0]) (by simp[results,Tryz.results29,go_sem,h0,h1]) rfl ⟨by rw[HE.out],O4⟩
theorem Zfy (c:Cf) (n:Int) (w:World):Calls Tryz.prog 31 #[.agg #[.int .i64 c.semi,.int .i64 c.large,.int .i64 c.slots,.int .i64 c.limit],.int .i64 n] w fun e w'=>e=.returned (.bool (ZX c n))∧Only nob w w':=by
 have ways:(c.ok∧0<n∧n≤c.limit∧ZX c n=true)∨(c.ok∧0<n∧ ¬n≤c.limit∧ZX c n=false)∨(c.ok∧ ¬0<n∧ZX c n=false)∨(¬c.ok∧ZX c n=false):=by
  unfold ZX
  by_cases h:c.ok <;> by_cases h1:0<n <;> by_cases h2:n≤c.limit <;> simp[h,h1,h2] <;> omega
 rcases ways with⟨h,h1,h2,he⟩|⟨h,h1,h2,he⟩|⟨h,h1,he⟩|⟨h,he⟩
 case' inr.inr.inr=>have HC:=ZZ (Zba h)
 case' inl=>have HC:=ZZ (ZP h)
 case' inr.inl=>have HC:=ZZ (ZP h)
 case' inr.inr.inl=>have HC:=ZZ (ZP h)
 all_goals
  rw[he];clear h he
  go_enter Tryz.func31,Tryz.ntmps31
  go_wp2_with fail
  go_at_call 26;refine(HC.out _).mono ?_;rintro e w1 ⟨rfl,o⟩;have O1:=ZZ ((ZN w c).trans o);obtain⟨c0,c1,c2,c3⟩:=(CBox.new w c).keep o;clear o;go_wp2;go_ret;exact⟨Za (by first|rfl|(simp;done)|(simp;omega)),O1.out⟩
end Go.Proofs.YtknoncenblehkaaGreatDoor
