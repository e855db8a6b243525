/- Contracts of the document's own answers for tables: Add, Fin Configs and their parts, plainly; what is asked of package l Contracts of the document's own answers for layouts. -/
import Derived.Test.YteieocddfnlmdaaGreatDoorO13
set_option maxRecDepth 100000
set_option maxHeartbeats 32000000
set_option linter.unusedSimpArgs false
set_option linter.unusedVariables false
namespace Go.Proofs.YteieocddfnlmdaaGreatDoor
section
open Go.RowKit Go.Lib
theorem Zjx (va vb:Value) (l m:List Sp) (B B':Nat) (w:World) (ha:Sl w B 2 va l.length (spc l)) (hb:Sl w B' 2 vb m.length (spc m)):
 Calls Tryz.prog 150 #[va,vb] w fun e w'=>e=.returned (.bool (decide (l=m)))∧Only nob w w':=by
 have HA:=ZZ ha;have HB:=ZZ hb;obtain⟨A,ca,rfl,hac,ham, -⟩:=ha;obtain⟨A',cb,rfl,hbc,hbm, -⟩:=hb;unfold maxLen at ham hbm;by_cases hlen:l.length=m.length
 · have HL:=ZZ hlen
   rw[← hlen] at hbc ⊢;clear hlen
   go_enter Tryz.func150,Tryz.ntmps150
   go_wp2
   go_loopw [5] (fun i wr=> ∃k m':Nat,k≤l.length∧i=.int .i64 k∧Hid (∀(j:Nat) x,j<k→l[j]? =some x→m[j]? =some x)∧wr=w.drewN m') (fun i _=>l.length - (intOf i).toNat)
   case atStart=>exact⟨0,0,Yu _,rfl,fun j _ hj _=>absurd hj (Nat.not_lt_zero j),rfl⟩
   case round=>
    obtain⟨k,m',hk,rfl,hno,rfl⟩:=hrel;by_cases hlt:k<l.length
    · obtain⟨x,hx⟩: ∃x,l[k]? =some x:=⟨_,Ya hlt⟩
      obtain⟨y,hy⟩: ∃y,m[k]? =some y:=⟨_,Ya (by rw[← HL.out];exact hlt)⟩
      obtain⟨b1,o1,rfl, -,c0,c1⟩:=sl_span HA.out (Below.refl _ _) hx;obtain⟨b2,o2,rfl, -,d0,d1⟩:=sl_span HB.out (Below.refl _ _) hy;have HX:=ZZ hx;have HY:=ZZ hy;clear hx hy;by_cases h1:x.1=y.1
      · by_cases h2:x.2=y.2
        · obtain rfl:x=y:=Prod.ext h1 h2
          clear h1 h2;go_wp2
          go_quiet (fail)
          go_wp2
          go_roundw
          case rel=>
           refine⟨k+1,_,by omega,by go_num,fun j z hj hz=>?_,rfl⟩;rcases Yq j k with h'|h'
           · exact hno.out j z h' hz
           · obtain rfl:j=k:=by omega
             rw[HX.out] at hz;rw[HY.out];exact hz
          case measure=>simp[intOf];omega
        · have HN:=ZZ (Yl (Zqx HX.out HY.out fun e=>h2 (by rw[e])))
          rw[h1] at c0;go_wp2
          go_quiet (fail)
          go_wp2;go_ret;exact⟨Za (by rw[HN.out]),((Only.refl _ _).drewN _).drewN _⟩
      · have HN:=ZZ (Yl (Zqx HX.out HY.out fun e=>h1 (by rw[e])))
        go_wp2
        go_quiet (fail)
        go_wp2;go_ret;exact⟨Za (by rw[HN.out]),((Only.refl _ _).drewN _).drewN _⟩
    · obtain rfl:k=l.length:=by omega
      have HN:=ZZ (Ym (ZrC HL.out hno.out));go_wp2;go_ret;exact⟨Za (by rw[HN.out]),(Only.refl _ _).drewN _⟩
 · have HN:=ZZ (Yl (ZrN hlen))
   have hn1: ¬((l.length:Int)=(m.length:Int)):=by omega
   go_enter Tryz.func150,Tryz.ntmps150
   go_wp2;go_ret;exact⟨Za (by rw[HN.out]),Only.refl _ _⟩
theorem ZtX (all:Sp) (v u:Value) (l m:List Sp) (B:Nat) (w:World) (h:Sl w B 2 v l.length (spc l)) (k:Sl w B 2 u m.length (spc m)) (hB:B≤w.heap.size) (hl:l.length≤10000):
 Calls Tryz.prog 112 #[.agg #[.int .i64 all.1,.int .i64 all.2],v,u] w fun e w'=>e=.returned (.bool (decide (Zah all l m)))∧Only nob w w':=by
 have HA:=ZZ h;have HU:=ZZ k;obtain⟨A,ca,rfl,hac,ham, -⟩:=h;obtain⟨A',ca',rfl, -, -⟩:=k.form;unfold maxLen at ham;have HB:=ZZ (Blk.new w 51 #[.int .i64 all.1,.int .i64 all.2]);have HO0:=ZZ ((Only.refl nob w).alloc (.cells #[.int .i64 all.1,.int .i64 all.2] 51));clear k
 go_enter Tryz.func112,Tryz.ntmps112
 go_wp2_with fail
 go_loopw [7] (fun i wr=> ∃k:Nat,k≤l.length∧i=.int .i64 k∧Hid (ZpN all l k)∧Hid (Only nob (w.alloc (.cells #[.int .i64 all.1,.int .i64 all.2] 51)) wr)) (fun i _=>l.length - (intOf i).toNat)
 case atStart=>exact⟨0,Yu _,rfl,fun j _ hj _=>absurd hj (Nat.not_lt_zero j),Only.refl _ _⟩
 case round=>
  obtain⟨k,hk,rfl,hno,HX⟩:=hrel;have HOW:=ZZ (HO0.out.trans HX.out);have b0:=HX.out.keeps (HB.out.cell 0);have b1:=HX.out.keeps (HB.out.cell 1);simp at b0 b1;by_cases hlt:k<l.length
  · obtain⟨x,hx⟩: ∃x,l[k]? =some x:=⟨_,Ya hlt⟩
    obtain⟨b,o,rfl,hb,c0,c1⟩:=sl_span HA.out (HOW.out.below hB fun _ h=>h.elim) hx;have HXX:=ZZ hx;clear hx;by_cases hw:Sp.within x all
    · have HW:=ZZ hw
      have HD:=ZZ (Ym hw);clear hw
      go_wp2_with fail
      go_region_held3 (fun w'=>w'.cell? ⟨b,o+k * 2,none⟩=some (.int .i64 x.1)∧w'.cell? ⟨b,o+k * 2+1,none⟩=some (.int .i64 x.2)∧w'.cell? ⟨w.heap.size,0,none⟩=some (.int .i64 all.1)∧w'.cell? ⟨w.heap.size,1,none⟩=some (.int .i64 all.2)) (first|go_keep|exact C1.out)
       ((go_at_call 148;refine(Zdx x all _).mono ?_;rw[HD.out];rintro e w2 ⟨rfl,ho⟩;have O2:=ZZ ho.drewL;have C1:=ZZ (And.intro (ho.drewL.keeps c0) (And.intro (ho.drewL.keeps c1) (And.intro (ho.drewL.keeps b0) (ho.drewL.keeps b1))));clear ho))
      have c0':=O2.out.keeps c0;have c1':=O2.out.keeps c1;have HX2:=ZZ (HX.out.trans O2.out);have HOW2:=ZZ (HOW.out.trans O2.out);clear c0 c1 b0 b1;rcases Nat.eq_zero_or_pos k with rfl|hk0
      · have HU:=ZZ (Zgh hno.out HXX.out HW.out fun h=>absurd h (Nat.lt_irrefl 0))
        go_wp2_with fail
        go_quiet (fail)
        go_wp2
        go_roundw
        case rel=>exact⟨1,by omega,by go_num,HU.out,HX2.out.drewN _⟩
        case measure=>simp[intOf];omega
      · obtain⟨m',rfl⟩: ∃m,k=m+1:=⟨k - 1,by omega⟩
        obtain⟨y,hy⟩: ∃y,l[m']? =some y:=⟨_,Ya (by omega)⟩
        obtain⟨b3,o3,e3, -,d0,d1⟩:=sl_span HA.out (HOW2.out.below hB fun _ h=>h.elim) hy
        obtain⟨rfl,rfl⟩:b3=b∧o3=o:=by simpa using e3.symm
        have HY:=ZZ hy;clear hy e3;by_cases hlt2:y.1<x.1
        · have HU:=ZZ (Zgh hno.out HXX.out HW.out fun _ z hz=>by
           rw[Nat.add_sub_cancel,HY.out] at hz;obtain rfl:=Yp hz
           exact hlt2)
          go_wp2_with fail
          go_quiet (fail)
          go_wp2
          go_roundw
          case rel=>exact⟨m'+1+1,by omega,by go_num,HU.out,HX2.out.drewN _⟩
          case measure=>simp[intOf];omega
        · have HN:=ZZ (Yl (ZmN (all:=all) (m:=m) HY.out HXX.out hlt2))
          go_wp2_with fail
          go_quiet (fail)
          go_wp2;go_ret;exact⟨Za (by rw[HN.out]),HOW2.out.drewN _⟩
    · have HD:=ZZ (Yl hw)
      have HN:=ZZ (Yl (ZlP (m:=m) HXX.out hw));clear hw
      go_wp2_with fail
      go_region_held3 (fun w'=>w'.cell? ⟨b,o+k * 2,none⟩=some (.int .i64 x.1)∧w'.cell? ⟨b,o+k * 2+1,none⟩=some (.int .i64 x.2)∧w'.cell? ⟨w.heap.size,0,none⟩=some (.int .i64 all.1)∧w'.cell? ⟨w.heap.size,1,none⟩=some (.int .i64 all.2)) (first|go_keep|exact C1.out)
       ((go_at_call 148;refine(Zdx x all _).mono ?_;rw[HD.out];rintro e w2 ⟨rfl,ho⟩;have O2:=ZZ ho.drewL;have C1:=ZZ (And.intro (ho.drewL.keeps c0) (And.intro (ho.drewL.keeps c1) (And.intro (ho.drewL.keeps b0) (ho.drewL.keeps b1))));clear ho))
      have HOW2:=ZZ (HOW.out.trans O2.out);clear c0 c1 b0 b1;go_wp2;go_ret;exact⟨Za (by rw[HN.out]),HOW2.out⟩
  · obtain rfl:k=l.length:=by omega
    have HK:=ZZ (ZoP hno.out);by_cases h3:Z9 l
    · have H3:=ZZ h3
      have HD3:=ZZ (Ym h3);clear h3 b0 b1
      go_wp2_with fail
      go_at_call 149;refine(Zep _ l B _ (HA.out.below (HOW.out.below hB fun _ h=>h.elim)) (Yi hB HOW.out.size)).mono ?_;rw[HD3.out];rintro e w3 ⟨rfl,o⟩;have O3:=ZZ (HOW.out.trans o);have X3:=HX.out.trans o;have b0:=X3.keeps (HB.out.cell 0);have b1:=X3.keeps (HB.out.cell 1);simp at b0 b1;clear o X3
      go_wp2_with fail
      go_at_call 151;refine(ZjB all _ l B _ (HA.out.below (O3.out.below hB fun _ h=>h.elim)) (Yi hB O3.out.size) (by omega)).mono ?_;rintro e w4 ⟨v4,O,rfl,hj,hc,own,o⟩;have HE:=ZZ (ZhZ (m:=m) HK.out.1 HK.out.2 H3.out hj hc);have S4:=ZZ (Sl.of_own own own.1);have O4:=ZZ (O3.out.trans o);clear hj hc own o b0 b1
      go_wp2_with fail
      go_at_call 150;refine(Zjx _ _ O m _ _ w4 S4.out (HU.out.below (O4.out.below hB fun _ h=>h.elim))).mono ?_;rw[show decide (O=m)=decide (Zah all l m) by rw[HE.out,Bool.eq_iff_iff,decide_eq_true_iff,decide_eq_true_iff];exact eq_comm]
      obtain⟨j,hj⟩: ∃j,j=decide (Zah all l m):=⟨_,rfl⟩
      rw[← hj];have HJ:=ZZ hj;clear hj;rintro e w5 ⟨rfl,o⟩;have O5:=ZZ (O4.out.trans o);clear o;go_wp2;go_ret;exact⟨Za (by rw[HJ.out]),O5.out⟩
    · have HN:=ZZ (show decide (Zah all l m)=false from Yl fun h=>h3 h.2.2.1)
      have HD3:=ZZ (Yl h3);clear h3 b0 b1
      go_wp2_with fail
      go_at_call 149;refine(Zep _ l B _ (HA.out.below (HOW.out.below hB fun _ h=>h.elim)) (Yi hB HOW.out.size)).mono ?_;rw[HD3.out];rintro e w3 ⟨rfl,o⟩;have O3:=ZZ (HOW.out.trans o);clear o;go_wp2;go_ret;exact⟨Za (by rw[HN.out]),O3.out⟩
end
section
open Go.RowKit
structure Cf where
 semi:Int
 large:Int
 slots:Int
 limit:Int
def Cf.ok (c:Cf):Prop:=2≤c.semi∧c.semi≤32768∧0≤c.large∧c.large≤32768∧1≤c.slots∧c.slots≤1024∧1≤c.limit∧c.limit≤c.semi
instance (c:Cf):Decidable c.ok:=by unfold Cf.ok;infer_instance
def Zs (c:Cf):Int:=if c.ok then c.semi+c.semi+c.large else 0
def Zbx (c:Cf) (n:Int):Sp:=if c.ok then(n * c.semi,c.semi) else(0,0)
def ZR (c:Cf) (s:Bool):Sp:=if s then Zbx c 1 else Zbx c 0
def cTo (c:Cf) (s:Bool):Sp:=ZR c (!s)
def Zo (c:Cf):Sp:=if c.ok∧c.large≠0 then(c.semi+c.semi,c.large) else(0,0)
def ZaC (c:Cf) (n:Int):Bool:=decide c.ok&&(decide (0<n)&&decide (n≤c.limit))
def I64 (z:Int):Prop:= -9223372036854775808≤z∧z≤9223372036854775807
structure CFit (c:Cf):Prop where
 fa:I64 c.semi
 fb:I64 c.large
 fc:I64 c.slots
 fd:I64 c.limit
def LyCheck:Prop:= ∀(c:Cf) (w:World),CFit c→Calls Tryz.prog 56 #[.agg #[.int .i64 c.semi,.int .i64 c.large,.int .i64 c.slots,.int .i64 c.limit]] w fun e w'=>e=.returned (.bool (decide c.ok))∧Only nob w w'
def LyWords:Prop:= ∀(c:Cf) (w:World),CFit c→Calls Tryz.prog 58 #[.agg #[.int .i64 c.semi,.int .i64 c.large,.int .i64 c.slots,.int .i64 c.limit]] w fun e w'=>e=.returned (.int .i64 (Zs c))∧Only nob w w'
def LyFrom:Prop:= ∀(c:Cf) (s:Bool) (w:World),CFit c→Calls Tryz.prog 95 #[.agg #[.int .i64 c.semi,.int .i64 c.large,.int .i64 c.slots,.int .i64 c.limit],.bool s] w fun e w'=>e=.returned (.agg #[.int .i64 (ZR c s).1,.int .i64 (ZR c s).2])∧Only nob w w'
def LyLarge:Prop:= ∀(c:Cf) (w:World),CFit c→Calls Tryz.prog 60 #[.agg #[.int .i64 c.semi,.int .i64 c.large,.int .i64 c.slots,.int .i64 c.limit]] w fun e w'=>e=.returned (.agg #[.int .i64 (Zo c).1,.int .i64 (Zo c).2])∧Only nob w w'
def LySmall:Prop:= ∀(c:Cf) (n:Int) (w:World),CFit c→I64 n→Calls Tryz.prog 178 #[.agg #[.int .i64 c.semi,.int .i64 c.large,.int .i64 c.slots,.int .i64 c.limit],.int .i64 n] w fun e w'=>e=.returned (.bool (ZaC c n))∧Only nob w w'
structure CBox (W:World) (b:Nat) (c:Cf):Prop where
 c0:W.cell? ⟨b,0,none⟩=some (.int .i64 c.semi)
 c1:W.cell? ⟨b,1,none⟩=some (.int .i64 c.large)
 c2:W.cell? ⟨b,2,none⟩=some (.int .i64 c.slots)
 c3:W.cell? ⟨b,3,none⟩=some (.int .i64 c.limit)
theorem CBox.keep {W W':World} {b:Nat} {c:Cf} (h:CBox W b c) (o:Only nob W W'):CBox W' b c:=⟨o.keeps h.c0,o.keeps h.c1,o.keeps h.c2,o.keeps h.c3⟩
theorem CBox.new (w:World) (c:Cf):CBox (w.alloc (.cells #[.int .i64 c.semi,.int .i64 c.large,.int .i64 c.slots,.int .i64 c.limit] 23)) w.heap.size c:=by
 have h:=Blk.new w 23 #[.int .i64 c.semi,.int .i64 c.large,.int .i64 c.slots,.int .i64 c.limit];exact⟨h.cell 0,h.cell 1,h.cell 2,h.cell 3⟩
theorem Zag (w:World) (c:Cf):Only nob w (w.alloc (.cells #[.int .i64 c.semi,.int .i64 c.large,.int .i64 c.slots,.int .i64 c.limit] 23)):=(Only.refl nob w).alloc _
theorem Zcu (c:Cf) (w:World):Calls Tryz.prog 67 #[.agg #[.int .i64 c.semi,.int .i64 c.large,.int .i64 c.slots,.int .i64 c.limit]] w fun e w'=>e=.returned (.bool (decide c.ok))∧Only nob w w':=by
 obtain⟨b,hb⟩: ∃b,decide c.ok=b:=⟨_,rfl⟩
 rw[hb];have HB:=ZZ hb;clear hb
 go_enter Tryz.func67,Tryz.ntmps67
 go_wp2
 all_goals go_ret
 all_goals
  refine⟨Za ?_,(Only.refl nob w).alloc _⟩;rw[← HB.out]
  first
   |exact(Yl (by unfold Cf.ok;omega)).symm
   |exact decide_eq_decide.2 ⟨fun hq=>by unfold Cf.ok;omega,fun hq=>by unfold Cf.ok at hq;omega⟩
   |(by_cases hq:c.limit≤c.semi;exact(Ym (by unfold Cf.ok;omega)).symm)
theorem Zab {c:Cf} (h:c.ok) (w:World):Calls Tryz.prog 67 #[.agg #[.int .i64 c.semi,.int .i64 c.large,.int .i64 c.slots,.int .i64 c.limit]] w fun e w'=>e=.returned (.bool true)∧Only nob w w':=by
 have:=Zcu c w
 rwa [Ym h] at this
theorem Zb6 {c:Cf} (h: ¬c.ok) (w:World):Calls Tryz.prog 67 #[.agg #[.int .i64 c.semi,.int .i64 c.large,.int .i64 c.slots,.int .i64 c.limit]] w fun e w'=>e=.returned (.bool false)∧Only nob w w':=by
 have:=Zcu c w
 rwa [Yl h] at this
theorem ZiN (c:Cf) (w:World):Calls Tryz.prog 68 #[.agg #[.int .i64 c.semi,.int .i64 c.large,.int .i64 c.slots,.int .i64 c.limit]] w fun e w'=>e=.returned (.int .i64 (Zs c))∧Only nob w w':=by
 by_cases h:c.ok
 · have HE:=ZZ (show Zs c=c.semi+c.semi+c.large by unfold Zs;rw[if_pos h])
   have HO:=ZZ h;unfold Cf.ok at h
   go_enter Tryz.func68,Tryz.ntmps68
   go_wp2_with fail
   go_at_call 67;refine(Zab HO.out _).mono ?_;rintro e w1 ⟨rfl,o⟩;have HB:=ZZ ((CBox.new w c).keep o);have O1:=ZZ ((Zag w c).trans o);obtain⟨c0,c1,c2,c3⟩:=HB.out;clear o;go_wp2;go_ret;exact⟨Zcl (by rw[HE.out]),O1.out⟩
 · have HE:=ZZ (show Zs c=0 by unfold Zs;rw[if_neg h])
   have HO:=ZZ h;clear h
   go_enter Tryz.func68,Tryz.ntmps68
   go_wp2_with fail
   go_at_call 67;refine(Zb6 HO.out _).mono ?_;rintro e w1 ⟨rfl,o⟩;have O1:=ZZ ((Zag w c).trans o);clear o;go_wp2;go_ret;exact⟨Zcl (by rw[HE.out]),O1.out⟩
theorem Zbh {w W:World} (o:Only nob w W) {b:Nat} (hb:w.heap.size≤b) (B:Blk W b 51 #[.int .i64 0,.int .i64 0]) (x y:Int):
 ∃W4,((W.setCell ⟨b,0,none⟩ (.int .i64 x)).setCell ⟨b,1,none⟩ (.int .i64 y))=W4∧Only nob w W4∧W4.cell? ⟨b,0,none⟩=some (.int .i64 x)∧W4.cell? ⟨b,1,none⟩=some (.int .i64 y):=by
 have B4:Blk ((W.setCell ⟨b,0,none⟩ (.int .i64 x)).setCell ⟨b,1,none⟩ (.int .i64 y)) b 51 #[.int .i64 x,.int .i64 y]:=by simpa using(B.put 0 (.int .i64 x)).put 1 (.int .i64 y)
 exact⟨_,rfl,(o.setCell (p:=⟨b,0,none⟩) (fun h=>absurd h (Nat.not_lt_of_le hb)) _).setCell (p:=⟨b,1,none⟩) (fun h=>absurd h (Nat.not_lt_of_le hb)) _,B4.cell 0,B4.cell 1⟩
theorem Zfu (c:Cf) (n:Int) (hn:n=0∨n=1) (w:World):Calls Tryz.prog 110 #[.agg #[.int .i64 c.semi,.int .i64 c.large,.int .i64 c.slots,.int .i64 c.limit],.int .i64 n] w fun e w'=>e=.returned (.agg #[.int .i64 (Zbx c n).1,.int .i64 (Zbx c n).2])∧Only nob w w':=by
 have o2:=ZZ ((Zag w c).alloc (.cells #[.int .i64 0,.int .i64 0] 51));have b2:=ZZ (Blk.newAt (w.alloc (.cells #[.int .i64 c.semi,.int .i64 c.large,.int .i64 c.slots,.int .i64 c.limit] 23)) 51 #[.int .i64 0,.int .i64 0] (w.heap.size+1) (by simp));have cb:=ZZ ((CBox.new w c).keep ((Only.refl nob _).alloc (.cells #[.int .i64 0,.int .i64 0] 51)));by_cases h:c.ok
 · have HE:=ZZ (show Zbx c n=(n * c.semi,c.semi) by unfold Zbx;rw[if_pos h])
   have HO:=ZZ h
   have hb:0≤n * c.semi∧n * c.semi≤32768:=by unfold Cf.ok at h;rcases hn with rfl|rfl <;> omega
   clear h
   go_enter Tryz.func110,Tryz.ntmps110
   go_wp2_with fail
   go_at_call 67;refine(Zab HO.out _).mono ?_;rintro e w1 ⟨rfl,o⟩;have O1:=ZZ (o2.out.trans o);have B1:=ZZ (b2.out.keep o id);obtain⟨c0,c1,c2,c3⟩:=cb.out.keep o;have g0:w1.cell? ⟨w.heap.size+1,0,none⟩=some (.int .i64 0):=B1.out.cell 0;have g1:w1.cell? ⟨w.heap.size+1,1,none⟩=some (.int .i64 0):=B1.out.cell 1;have g2:=B1.out.free 0;have g3:=B1.out.free 1;clear o;go_wp2;obtain⟨W4,hW4,O4,h0,h1⟩:=Zbh O1.out (by omega) B1.out (n * c.semi) c.semi;rw[hW4];exact bodyPost_ret (v:=.agg #[.int .i64 (n * c.semi),.int .i64 c.semi]) (by simp[results,Tryz.results110,go_sem,h0,h1]) rfl ⟨by rw[HE.out],O4⟩
 · have HE:=ZZ (show Zbx c n=(0,0) by unfold Zbx;rw[if_neg h])
   have HO:=ZZ h;clear h
   go_enter Tryz.func110,Tryz.ntmps110
   go_wp2_with fail
   go_at_call 67;refine(Zb6 HO.out _).mono ?_;rintro e w1 ⟨rfl,o⟩;have O1:=ZZ (o2.out.trans o);have B1:=ZZ (b2.out.keep o id);have g0:w1.cell? ⟨w.heap.size+1,0,none⟩=some (.int .i64 0):=B1.out.cell 0;have g1:w1.cell? ⟨w.heap.size+1,1,none⟩=some (.int .i64 0):=B1.out.cell 1;have g2:=B1.out.free 0;have g3:=B1.out.free 1;clear o;go_wp2;obtain⟨W4,hW4,O4,h0,h1⟩:=Zbh O1.out (by omega) B1.out 0 0;rw[hW4];exact bodyPost_ret (v:=.agg #[.int .i64 0,.int .i64 0]) (by simp[results,Tryz.results110,go_sem,h0,h1]) rfl ⟨by rw[HE.out],O4⟩
theorem ZfN (c:Cf) (s:Bool) (w:World):Calls Tryz.prog 69 #[.agg #[.int .i64 c.semi,.int .i64 c.large,.int .i64 c.slots,.int .i64 c.limit],.bool s] w fun e w'=>e=.returned (.agg #[.int .i64 (ZR c s).1,.int .i64 (ZR c s).2])∧Only nob w w':=by
 have o2:=ZZ ((Zag w c).alloc (.cells #[.int .i64 0,.int .i64 0] 51));have b2:=ZZ (Blk.newAt (w.alloc (.cells #[.int .i64 c.semi,.int .i64 c.large,.int .i64 c.slots,.int .i64 c.limit] 23)) 51 #[.int .i64 0,.int .i64 0] (w.heap.size+1) (by simp))
 obtain⟨x,hx⟩: ∃x,ZR c s=x:=⟨_,rfl⟩
 rw[hx]
 cases s
 case' false=>
  have HC:=Zfu c 0 (.inl rfl);rw[show Zbx c 0=x from hx] at HC
 case' true=>
  have HC:=Zfu c 1 (.inr rfl);rw[show Zbx c 1=x from hx] at HC
 all_goals
  replace HC:=ZZ HC
  clear hx
  go_enter Tryz.func69,Tryz.ntmps69
  go_wp2_with fail
  go_at_call 110;refine(HC.out _).mono ?_;rintro e w1 ⟨rfl,o⟩;have O1:=ZZ (o2.out.trans o);have B1:=ZZ (b2.out.keep o id);have g0:w1.cell? ⟨w.heap.size+1,0,none⟩=some (.int .i64 0):=B1.out.cell 0;have g1:w1.cell? ⟨w.heap.size+1,1,none⟩=some (.int .i64 0):=B1.out.cell 1;have g2:=B1.out.free 0;have g3:=B1.out.free 1;clear o;go_wp2;obtain⟨W4,hW4,O4,h0,h1⟩:=Zbh O1.out (by omega) B1.out x.1 x.2;rw[hW4];exact bodyPost_ret (v:=.agg #[.int .i64 x.1,.int .i64 x.2]) (by simp[results,Tryz.results69,go_sem,h0,h1]) rfl ⟨rfl,O4⟩
theorem ZiL (c:Cf) (w:World):Calls Tryz.prog 113 #[.agg #[.int .i64 c.semi,.int .i64 c.large,.int .i64 c.slots,.int .i64 c.limit]] w fun e w'=>e=.returned (.agg #[.int .i64 (Zo c).1,.int .i64 (Zo c).2])∧Only nob w w':=by
 have o2:=ZZ ((Zag w c).alloc (.cells #[.int .i64 0,.int .i64 0] 51));have b2:=ZZ (Blk.newAt (w.alloc (.cells #[.int .i64 c.semi,.int .i64 c.large,.int .i64 c.slots,.int .i64 c.limit] 23)) 51 #[.int .i64 0,.int .i64 0] (w.heap.size+1) (by simp));have cb:=ZZ ((CBox.new w c).keep ((Only.refl nob _).alloc (.cells #[.int .i64 0,.int .i64 0] 51)))
 have ways:(c.ok∧ ¬c.large=0∧(c.large==0)=false∧Zo c=(c.semi+c.semi,c.large))∨(c.ok∧c.large=0∧(c.large==0)=true∧Zo c=(0,0))∨(¬c.ok∧Zo c=(0,0)):=by
  unfold Zo;by_cases h:c.ok
  · by_cases hl:c.large=0
    · exact .inr (.inl ⟨h,hl,by simp[hl],by rw[if_neg (fun q=>q.2 hl)]⟩)
    · exact .inl ⟨h,hl,by simpa using hl,by rw[if_pos ⟨h,hl⟩]⟩
  · exact .inr (.inr ⟨h,by rw[if_neg (fun q=>h q.1)]⟩)
 rcases ways with⟨h, -,hl,HE⟩|⟨h, -,hl,HE⟩|⟨h,HE⟩
 · have HO:=ZZ h
   replace HE:=ZZ HE
   unfold Cf.ok at h
   go_enter Tryz.func113,Tryz.ntmps113
   go_wp2_with fail
   go_at_call 67;refine(Zab HO.out _).mono ?_;rintro e w1 ⟨rfl,o⟩;have O1:=ZZ (o2.out.trans o);have B1:=ZZ (b2.out.keep o id);obtain⟨c0,c1,c2,c3⟩:=cb.out.keep o;have g0:w1.cell? ⟨w.heap.size+1,0,none⟩=some (.int .i64 0):=B1.out.cell 0;have g1:w1.cell? ⟨w.heap.size+1,1,none⟩=some (.int .i64 0):=B1.out.cell 1;have g2:=B1.out.free 0;have g3:=B1.out.free 1;clear o;go_wp2;obtain⟨W4,hW4,O4,h0,h1⟩:=Zbh O1.out (by omega) B1.out (c.semi+c.semi) c.large;rw[hW4];exact bodyPost_ret (v:=.agg #[.int .i64 (c.semi+c.semi),.int .i64 c.large]) (by simp[results,Tryz.results113,go_sem,h0,h1]) rfl ⟨by rw[HE.out],O4⟩
 · have HO:=ZZ h
   replace HE:=ZZ HE
   unfold Cf.ok at h
   go_enter Tryz.func113,Tryz.ntmps113
   go_wp2_with fail
   go_at_call 67;refine(Zab HO.out _).mono ?_;rintro e w1 ⟨rfl,o⟩;have O1:=ZZ (o2.out.trans o);have B1:=ZZ (b2.out.keep o id);obtain⟨c0,c1,c2,c3⟩:=cb.out.keep o;have g0:w1.cell? ⟨w.heap.size+1,0,none⟩=some (.int .i64 0):=B1.out.cell 0;have g1:w1.cell? ⟨w.heap.size+1,1,none⟩=some (.int .i64 0):=B1.out.cell 1;have g2:=B1.out.free 0;have g3:=B1.out.free 1;clear o;go_wp2;obtain⟨W4,hW4,O4,h0,h1⟩:=Zbh O1.out (by omega) B1.out 0 0;rw[hW4];exact bodyPost_ret (v:=.agg #[.int .i64 0,.int .i64 0]) (by simp[results,Tryz.results113,go_sem,h0,h1]) rfl ⟨by rw[HE.out],O4⟩
 · have HO:=ZZ h
   replace HE:=ZZ HE
   clear h
   go_enter Tryz.func113,Tryz.ntmps113
   go_wp2_with fail
   go_at_call 67;refine(Zb6 HO.out _).mono ?_;rintro e w1 ⟨rfl,o⟩;have O1:=ZZ (o2.out.trans o);have B1:=ZZ (b2.out.keep o id);have g0:w1.cell? ⟨w.heap.size+1,0,none⟩=some (.int .i64 0):=B1.out.cell 0;have g1:w1.cell? ⟨w.heap.size+1,1,none⟩=some (.int .i64 0):=B1.out.cell 1;have g2:=B1.out.free 0;have g3:=B1.out.free 1;clear o;go_wp2;obtain⟨W4,hW4,O4,h0,h1⟩:=Zbh O1.out (by omega) B1.out 0 0;rw[hW4];exact bodyPost_ret (v:=.agg #[.int .i64 0,.int .i64 0]) (by simp[results,Tryz.results113,go_sem,h0,h1]) rfl ⟨by rw[HE.out],O4⟩
theorem Zes (c:Cf) (n:Int) (w:World):Calls Tryz.prog 72 #[.agg #[.int .i64 c.semi,.int .i64 c.large,.int .i64 c.slots,.int .i64 c.limit],.int .i64 n] w fun e w'=>e=.returned (.bool (ZaC c n))∧Only nob w w':=by
 have ways:(c.ok∧0<n∧n≤c.limit∧ZaC c n=true)∨(c.ok∧0<n∧ ¬n≤c.limit∧ZaC c n=false)∨(c.ok∧ ¬0<n∧ZaC c n=false)∨(¬c.ok∧ZaC c n=false):=by
  unfold ZaC
  by_cases h:c.ok <;> by_cases h1:0<n <;> by_cases h2:n≤c.limit <;> simp[h,h1,h2] <;> omega
 rcases ways with⟨h,h1,h2,he⟩|⟨h,h1,h2,he⟩|⟨h,h1,he⟩|⟨h,he⟩
 case' inr.inr.inr=>have HC:=ZZ (Zb6 h)
 case' inl=>have HC:=ZZ (Zab h)
 case' inr.inl=>have HC:=ZZ (Zab h)
 case' inr.inr.inl=>have HC:=ZZ (Zab h)
 all_goals
  rw[he];clear h he
  go_enter Tryz.func72,Tryz.ntmps72
  go_wp2_with fail
  go_at_call 67;refine(HC.out _).mono ?_;rintro e w1 ⟨rfl,o⟩;have O1:=ZZ ((Zag w c).trans o);obtain⟨c0,c1,c2,c3⟩:=(CBox.new w c).keep o;clear o;go_wp2;go_ret;exact⟨Za (by first|rfl|(simp;done)|(simp;omega)),O1.out⟩
end
end Go.Proofs.YteieocddfnlmdaaGreatDoor
