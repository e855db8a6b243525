/- Plain mathematics of tables of spans: where one belongs, wha Contracts of the document's own answers for tables: Add, Fin Configs and their parts, plainly; what is asked of package l Contracts of the document's own answers for layouts. -/
import Derived.Test.YtknoncenblehkaaGreatDoorF12
import Derived.Lib.Overlaps
import Derived.Lib.SlBuf
set_option maxRecDepth 100000
set_option maxHeartbeats 32000000
set_option linter.unusedSimpArgs false
set_option linter.unusedVariables false
namespace Go.Proofs.YtknoncenblehkaaGreatDoor
section
def ZbL (all:Sp) (l m:List Sp):Prop:=(∀x∈l,Sp.within x all)∧l.Pairwise (fun x y=>x.1≤y.1)∧Zaa l∧Joined m∧ ∀p,cov m p↔all.has p∧ ¬cov l p
noncomputable instance (all:Sp) (l m:List Sp):Decidable (ZbL all l m):=Classical.propDecidable _
theorem ZmE {all:Sp} {l m O:List Sp} (h1: ∀x∈l,Sp.within x all) (h2:l.Pairwise (fun x y=>x.1≤y.1)) (h3:Zaa l) (hj:Joined O) (hc: ∀p,cov O p↔all.has p∧ ¬cov l p):decide (ZbL all l m)=decide (m=O):=by
 rw[Bool.eq_iff_iff,decide_eq_true_iff,decide_eq_true_iff];constructor
 · rintro⟨-, -, -,hm,hcm⟩
   exact ZbI hm hj fun p=>(hcm p).trans (hc p).symm
 · rintro rfl
   exact⟨h1,h2,h3,hj,hc⟩
theorem ZlI {l:List Sp} (h: ∀(j:Nat) y x,l[j]? =some y→l[j+1]? =some x→y.1≤x.1):l.Pairwise fun x y=>x.1≤y.1:=by
 refine List.pairwise_iff_getElem.2 fun i j hi hj hij=>?_
 have step: ∀(d i:Nat) (hi:i<l.length) (hj:i+d+1<l.length),(l[i]).1≤(l[i+d+1]).1:=by
  intro d
  induction d with
  |zero=>intro i hi hj;exact h i _ _ (Ya hi) (Ya hj)
  |succ d ih=>
   intro i hi hj;have h1:=ih i hi (by omega);have h2:=h (i+d+1) _ _ (Ya (by omega)) (Ya (show i+d+1+1<l.length by omega));have h5:(l[i+(d+1)+1]).1=(l[i+d+1+1]).1:=congrArg Prod.fst (by congr 1);omega
 have:=step (j - i - 1) i hi (by omega)
 have h4:(l[i+(j - i - 1)+1]).1=(l[j]).1:=congrArg Prod.fst (by congr 1;omega);omega
theorem Zk4 {l:List Sp} {j:Nat} {y x:Sp} (hy:l[j]? =some y) (hx:l[j+1]? =some x) (h:x.1<y.1): ¬l.Pairwise fun x y=>x.1≤y.1:=by
 intro hp;obtain⟨h1,rfl⟩:=Yk.1 hx;obtain⟨h2,rfl⟩:=Yk.1 hy
 have:=List.pairwise_iff_getElem.1 hp j (j+1) h2 h1 (by omega)
 omega
theorem Zlu {l:List Sp} (hp:l.Pairwise fun x y=>x.1≤y.1) (ha:Zaa l):l.Pairwise fun x y=>x.1+x.2≤y.1:=by
 refine List.pairwise_iff_getElem.2 fun i j hi hj hij=>?_;have h1:=List.pairwise_iff_getElem.1 hp i j hi hj hij;have h2:=List.pairwise_iff_getElem.1 ha.2 i j hi hj hij;have o1:=ha.1 _ (List.getElem_mem hi);have o2:=ha.1 _ (List.getElem_mem hj);rw[ZdR o2 o1] at h2
 have:=o2.2.1
 omega
theorem Zgd {l:List Sp} (ho: ∀x∈l,Sp.ok x) (h:l.Pairwise fun x y=>x.1+x.2≤y.1):l.Pairwise (fun x y=>x.1≤y.1)∧Zaa l:=by
 refine⟨List.pairwise_iff_getElem.2 fun i j hi hj hij=>?_,ho,List.pairwise_iff_getElem.2 fun i j hi hj hij=>?_⟩
 · have h1:=List.pairwise_iff_getElem.1 h i j hi hj hij
   have:=(ho _ (List.getElem_mem hi)).2.1
   omega
 · have h1:=List.pairwise_iff_getElem.1 h i j hi hj hij
   rw[ZdR (ho _ (List.getElem_mem hj)) (ho _ (List.getElem_mem hi))];omega
end
section
open Go.RowKit Go.Lib Go.Shelf
theorem Zh1 {P:Program} {w:World} (dT sT ty elem:TypeId) (i:TypeInfo) (z n:Nat) (hu:P.underlying dT=some (.slice elem)) (hi:P.info? elem=some i) (hz:i.size=z)
 (g off dLen dCap b o sLen sCap:Nat) (cur:Array Value) (t:TypeId) (hg:Blk w g t cur) (news:List Value) (hn:Nat.min sLen dLen=n) (hnl:news.length=n * z) (hfit:off+news.length≤cur.size)
 (hsrc: ∀j v,news[j]? =some v→w.cell? ⟨b,o+j,none⟩=some v) (h1: ∀v∈news,v.oneCell'=true):
 (Builtin.copy_ #[dT,sT] ty #[.slice (some ⟨g,off,none⟩) dLen dCap,.slice (some ⟨b,o,none⟩) sLen sCap]).run P w=.ok (goInt n) (w.setCells g off news):=by
 subst hz;have hf:=run_firstCells_some (P:=P) w i.size n ⟨b,o,none⟩ sLen sCap news hnl (fun j v hj=>by rw[Addr.add_lit];exact hsrc j v hj);have hst:=run_storeCells_cells (P:=P) g off news 0 w (fun j hj=>by rw[Nat.add_zero,hg.cell,Array.getElem?_eq_getElem (by omega)];rfl) (fun j hj=>by rw[hg.free]) h1;rw[Nat.add_zero] at hst;simp[Builtin.copy_,run_underlying hu,Builtin.lenOf,sizeOf,typeInfo,hi,hn,hf,hst]
end
section
open Go.RowKit Go.Lib Go.Sort
theorem Zkb:Tryz.prog.follows .mixedOrders=true:=by kernel_rfl
theorem Zle (all:Sp) (gp:Nat) (ha:Fit all) (x:Sp) (hx:Fit x) (w:World) (hb:Blk w gp 61 #[.int .i64 all.1,.int .i64 all.2]):
 Calls Tryz.prog 169 #[.agg #[.int .i64 x.1,.int .i64 x.2],.pointer (some ⟨gp,0,none⟩)] w fun e w'=>e=.returned (.bool (!decide (Sp.within x all)))∧Only nob w w':=by
 have hb2:=hb.alloc (.cells #[.int .i64 x.1,.int .i64 x.2] 61);have hb0:=hb2.cell 0;have hb1:=hb2.cell 1;simp at hb0 hb1;clear hb hb2
 obtain⟨q,hq⟩: ∃q,q=decide (Sp.within x all):=⟨_,rfl⟩
 have HQ:=ZZ hq;rw[← hq];clear hq
 go_enter Tryz.func169,Tryz.ntmps169
 go_wp2_with fail
 go_at_call 125;refine(Zkr x all hx ha _).mono ?_;rw[← HQ.out];rintro e w1 ⟨rfl,o⟩;have O:=ZZ (((Only.refl nob w).alloc (.cells #[.int .i64 x.1,.int .i64 x.2] 61)).trans o);clear o;go_wp2;go_ret;exact⟨rfl,O.out⟩
theorem Zbu {all:Sp} {gp:Nat} {w:World} (ha:Fit all) (hb:Blk w gp 61 #[.int .i64 all.1,.int .i64 all.2]):Zus 169 #[.pointer (some ⟨gp,0,none⟩)] (fun x=>!decide (Sp.within x all)) w:=
 ⟨enters_of Tryz.func169 (by kernel_rfl) rfl,fun x hx W hW=>Zle all gp ha x hx W (hb.keep hW id)⟩
theorem Zp3 (x y:Sp) (w:World):Calls Tryz.prog 172 #[.agg #[.int .i64 x.1,.int .i64 x.2],.agg #[.int .i64 y.1,.int .i64 y.2]] w fun e w'=>e=.returned (.int .i64 (ZkC x.1 y.1))∧Only nob w w':=by
 have O:=ZZ (((Only.refl nob w).alloc (.cells #[.int .i64 x.1,.int .i64 x.2] 61)).alloc (.cells #[.int .i64 y.1,.int .i64 y.2] 61))
 go_enter Tryz.func172,Tryz.ntmps172
 go_wp2_with fail
 go_at_call 183;refine(Zfl _ _ _).mono ?_;rintro e w1 ⟨rfl,rfl⟩;go_wp2;go_ret;exact⟨rfl,O.out⟩
theorem ZjJ {a b:Int}:ZkC a b<0↔a<b:=by
 unfold ZkC
 split
 · constructor <;> intro <;> omega
 · split <;> constructor <;> intro <;> omega
abbrev Zuz:Value:=.func (.func 172) #[] #[]
theorem Zb5 (v:Value) (l:List Sp) (B:Nat) (w:World) (h:Sl w B 2 v l.length (spc l)) (hB:B≤w.heap.size):
 Calls Tryz.prog 171 #[v,Zuz] w fun e w'=>e=.returned (.bool (decide (l.Pairwise fun x y=>x.1≤y.1)))∧Only nob w w':=by
 have HA:=ZZ h;obtain⟨A,ca,rfl,hac,ham, -⟩:=h;unfold maxLen at ham;rcases Nat.eq_zero_or_pos l.length with h0|h0
 · obtain rfl:=List.eq_nil_of_length_eq_zero h0
   clear h0
   go_enter Tryz.func171,Tryz.ntmps171
   go_wp2
   go_loopw [5] (fun i wr=>i=.int .i64 (-1)∧wr=w) (fun _ _=>0)
   case atStart=>exact⟨rfl,rfl⟩
   case round=>
    obtain⟨rfl,rfl⟩:=hrel;go_wp2;go_ret;exact⟨rfl,Only.refl _ _⟩
 · go_enter Tryz.func171,Tryz.ntmps171
   go_wp2
   go_loopw [5] (fun i wr=> ∃k:Nat,k<l.length∧i=.int .i64 k∧Hid (∀(j:Nat) y x,k≤j→l[j]? =some y→l[j+1]? =some x→y.1≤x.1)∧Hid (Only nob w wr)) (fun i _=>(intOf i).toNat)
   case atStart=>
    refine⟨l.length - 1,by omega,?_,fun j y x hj _ hx=>?_,Only.refl _ _⟩
    · show Value.int .i64 _=Value.int .i64 _
      congr 1
      omega
    · have:=(Yk.1 hx).1
      omega
   case round=>
    obtain⟨k,hk,rfl,HS,HX⟩:=hrel;rcases Nat.eq_zero_or_pos k with rfl|hk0
    · have HK:=ZZ (Ym (ZlI fun j y x=>HS.out j y x (Yu _)))
      go_wp2;go_ret;exact⟨Zb (by rw[HK.out]),HX.out⟩
    · obtain⟨m,rfl⟩: ∃m,k=m+1:=⟨k - 1,by omega⟩
      obtain⟨x,hx⟩: ∃x,l[m+1]? =some x:=⟨_,Ya hk⟩
      obtain⟨y,hy⟩: ∃y,l[m]? =some y:=⟨_,Ya (by omega)⟩
      obtain⟨b,o,rfl,hb,c0,c1⟩:=ZM HA.out (HX.out.below hB fun _ h=>h.elim) hx;obtain⟨b3,o3,e3, -,d0,d1⟩:=ZM HA.out (HX.out.below hB fun _ h=>h.elim) hy
      obtain⟨rfl,rfl⟩:b3=b∧o3=o:=by simpa using e3.symm
      have HXX:=ZZ hx;have HY:=ZZ hy
      obtain⟨c,hc⟩: ∃c,c=ZkC x.1 y.1:=⟨_,rfl⟩
      have HC:=ZZ hc
      have H1:=ZZ (show ∀(n:Nat) (os:Array Obj),Calls Tryz.prog 172 #[.agg #[.int .i64 x.1,.int .i64 x.2],.agg #[.int .i64 y.1,.int .i64 y.2]] (wat wr n os) fun e w'=>e=.returned (.int .i64 c)∧Only nob (wat wr n os) w' from fun n os=>by
       rw[hc];exact Zp3 x y _)
      have g0:=Zd c0;have g1:=Zd c1;have g2:=Zd d0;have g3:=Zd d1;clear hx hy hc e3 c0 c1 d0 d1
      have jz:(m:Int)+1<(l.length:Int):=by omega
      have jz1:(m:Int)<(l.length:Int):=by omega
      have p0:(0:Int)≤(m:Int)+1:=by omega
      have e0:((m:Int)+1).toNat=m+1:=by omega
      have hwp:IntKind.i64.wrap (m:Int)=(m:Int):=by rw[IntKind.wrap_i64];omega
      by_cases hlt:c<0
      · have HN:=ZZ (Yl (Zk4 HY.out HXX.out (ZjJ.1 (by rw[← HC.out];exact hlt))))
        go_wp2_with fail
        refine Zm Zkb (by kernel_rfl) ?_
        repeat (quiet_step ((go_at_call 172;with_reducible refine Zw (H1.out _ _))))
        refine wpQuiet_nil ?_;rintro w' ⟨⟨nq,osq⟩,rfl⟩;obtain⟨W3,hW3,O4⟩:=ZG wr nq osq;rw[hW3];clear hW3 g0 g1 g2 g3;have O5:=ZZ (HX.out.trans O4.out);go_wp2;go_ret;exact⟨Zb (by rw[HN.out]),O5.out⟩
      · have HN:=ZZ (show y.1≤x.1 by
         have: ¬x.1<y.1:=fun e=>hlt (by rw[HC.out];exact ZjJ.2 e)
         omega)
        go_wp2_with fail
        refine Zm Zkb (by kernel_rfl) ?_
        repeat (quiet_step ((go_at_call 172;with_reducible refine Zw (H1.out _ _))))
        refine wpQuiet_nil ?_;rintro w' ⟨⟨nq,osq⟩,rfl⟩;obtain⟨W3,hW3,O4⟩:=ZG wr nq osq;rw[hW3];clear hW3 g0 g1 g2 g3;have O5:=ZZ (HX.out.trans O4.out);go_wp2
        go_roundw
        case rel=>
         refine⟨m,by omega,by go_num,fun j z u hj hz hu=>?_,O5.out⟩;rcases Yq m j with h'|h'
         · exact HS.out j z u h' hz hu
         · obtain rfl:j=m:=by omega
           rw[HY.out] at hz;rw[HXX.out] at hu;obtain rfl:=Yp hz;obtain rfl:=Yp hu;exact HN.out
        case measure=>simp[intOf]
def SpTable:Prop:= ∀(all:Sp) (v u:Value) (l m:List Sp) (B:Nat) (w:World),Sl w B 2 v l.length (spc l)→Sl w B 2 u m.length (spc m)→B≤w.heap.size→l.length≤10000→Zhk l→Fit all→
 Calls Tryz.prog 141 #[.agg #[.int .i64 all.1,.int .i64 all.2],v,u] w fun e w'=>e=.returned (.bool (decide (ZbL all l m)))∧Only nob w w'
theorem ZsB:SpTable:=by
 intro all v u l m B w h k hB hl hf ha;have HA:=ZZ h;have HU:=ZZ k;have HF:=ZZ hf;obtain⟨A,ca,rfl, -, -⟩:=h.form;obtain⟨A',ca',rfl, -, -⟩:=k.form;have HB:=ZZ (Blk.new w 61 #[.int .i64 all.1,.int .i64 all.2]);have O0:=ZZ ((Only.refl nob w).alloc (.cells #[.int .i64 all.1,.int .i64 all.2] 61));clear h k hf
 obtain⟨q,hq⟩: ∃q,q=l.any (fun x=>!decide (Sp.within x all)):=⟨_,rfl⟩
 have HQ:=ZZ hq;clear hq
 cases q with
 |true=>
  have HK:=ZZ (show decide (ZbL all l m)=false from Yl fun h=>by have:=ZfW.2 h.1;rw[← HQ.out] at this;cases this)
  go_enter Tryz.func141,Tryz.ntmps141
  go_wp2_with fail
  go_at_call 170;refine(Zae _ _ _ _ l B _ (Zbu ha HB.out) (HA.out.below (O0.out.below hB fun _ h=>h.elim)) (Yi hB O0.out.size) HF.out).mono ?_;rw[← HQ.out];rintro e w1 ⟨rfl,o⟩;have O1:=ZZ (O0.out.trans o);clear o;go_wp2;go_ret;exact⟨Zb (by rw[HK.out]),O1.out⟩
 |false=>
  have HW:=ZZ (ZfW.1 HQ.out.symm);by_cases h2:l.Pairwise fun x y=>x.1≤y.1
  · have H2:=ZZ h2
    have HD2:=ZZ (Ym h2);clear h2;by_cases h3:Zaa l
    · have H3:=ZZ h3
      have HD3:=ZZ (Ym h3);clear h3
      go_enter Tryz.func141,Tryz.ntmps141
      go_wp2_with fail
      go_at_call 170;refine(Zae _ _ _ _ l B _ (Zbu ha HB.out) (HA.out.below (O0.out.below hB fun _ h=>h.elim)) (Yi hB O0.out.size) HF.out).mono ?_;rw[← HQ.out];rintro e w1 ⟨rfl,o⟩;have O1:=ZZ (O0.out.trans o);have HB1:=ZZ (HB.out.keep o id);clear o
      go_wp2_with fail
      go_at_call 171;refine(Zb5 _ l B _ (HA.out.below (O1.out.below hB fun _ h=>h.elim)) (Yi hB O1.out.size)).mono ?_;rw[HD2.out];rintro e w2 ⟨rfl,o⟩;have O2:=ZZ (O1.out.trans o);have HB2:=ZZ (HB1.out.keep o id);clear o
      go_wp2_with fail
      go_at_call 173;refine(Zoh _ l B _ (HA.out.below (O2.out.below hB fun _ h=>h.elim)) (Yi hB O2.out.size) (by omega) HF.out).mono ?_;rw[HD3.out];rintro e w3 ⟨rfl,o⟩;have O3:=ZZ (O2.out.trans o);have HB3:=ZZ (HB2.out.keep o id);have c0:=HB3.out.cell 0;have c1:=HB3.out.cell 1;simp at c0 c1;clear o
      go_wp2_with fail
      go_at_call 55;refine(ZoM all _ l B _ (HA.out.below (O3.out.below hB fun _ h=>h.elim)) (Yi hB O3.out.size) (by omega) HF.out ha).mono ?_;rintro e w4 ⟨v4,O,rfl,hj,hc,hsl,o⟩;have HE:=ZZ (ZmE (m:=m) HW.out H2.out H3.out hj hc);have S4:=ZZ hsl;have O4:=ZZ (O3.out.trans o);clear hj hc hsl o c0 c1
      go_wp2_with fail
      go_at_call 174;refine(ZmI _ _ m O B _ w4 (HU.out.below (O4.out.below hB fun _ h=>h.elim)) S4.out).mono ?_;rw[← HE.out]
      obtain⟨j,hj⟩: ∃j,j=decide (ZbL all l m):=⟨_,rfl⟩
      rw[← hj];have HJ:=ZZ hj;clear hj;rintro e w5 ⟨rfl,o⟩;have O5:=ZZ (O4.out.trans o);clear o;go_wp2;go_ret;exact⟨Zb (by rw[HJ.out]),O5.out⟩
    · have HK:=ZZ (show decide (ZbL all l m)=false from Yl fun h=>h3 h.2.2.1)
      have HD3:=ZZ (Yl h3);clear h3
      go_enter Tryz.func141,Tryz.ntmps141
      go_wp2_with fail
      go_at_call 170;refine(Zae _ _ _ _ l B _ (Zbu ha HB.out) (HA.out.below (O0.out.below hB fun _ h=>h.elim)) (Yi hB O0.out.size) HF.out).mono ?_;rw[← HQ.out];rintro e w1 ⟨rfl,o⟩;have O1:=ZZ (O0.out.trans o);clear o
      go_wp2_with fail
      go_at_call 171;refine(Zb5 _ l B _ (HA.out.below (O1.out.below hB fun _ h=>h.elim)) (Yi hB O1.out.size)).mono ?_;rw[HD2.out];rintro e w2 ⟨rfl,o⟩;have O2:=ZZ (O1.out.trans o);clear o
      go_wp2_with fail
      go_at_call 173;refine(Zoh _ l B _ (HA.out.below (O2.out.below hB fun _ h=>h.elim)) (Yi hB O2.out.size) (by omega) HF.out).mono ?_;rw[HD3.out];rintro e w3 ⟨rfl,o⟩;have O3:=ZZ (O2.out.trans o);clear o;go_wp2;go_ret;exact⟨Zb (by rw[HK.out]),O3.out⟩
  · have HK:=ZZ (show decide (ZbL all l m)=false from Yl fun h=>h2 h.2.1)
    have HD2:=ZZ (Yl h2);clear h2
    go_enter Tryz.func141,Tryz.ntmps141
    go_wp2_with fail
    go_at_call 170;refine(Zae _ _ _ _ l B _ (Zbu ha HB.out) (HA.out.below (O0.out.below hB fun _ h=>h.elim)) (Yi hB O0.out.size) HF.out).mono ?_;rw[← HQ.out];rintro e w1 ⟨rfl,o⟩;have O1:=ZZ (O0.out.trans o);clear o
    go_wp2_with fail
    go_at_call 171;refine(Zb5 _ l B _ (HA.out.below (O1.out.below hB fun _ h=>h.elim)) (Yi hB O1.out.size)).mono ?_;rw[HD2.out];rintro e w2 ⟨rfl,o⟩;have O2:=ZZ (O1.out.trans o);clear o;go_wp2;go_ret;exact⟨Zb (by rw[HK.out]),O2.out⟩
end
section
open Go.RowKit Go.Lib
theorem Ze1 (va vb:Value) (l m:List Sp) (B B':Nat) (w:World) (ha:Sl w B 2 va l.length (spc l)) (hb:Sl w B' 2 vb m.length (spc m)):
 Calls Tryz.prog 35 #[va,vb] w fun e w'=>e=.returned (.bool (decide (l=m)))∧Only nob w w':=by
 have HA:=ZZ ha;have HB:=ZZ hb;obtain⟨A,ca,rfl,hac,ham, -⟩:=ha;obtain⟨A',cb,rfl,hbc,hbm, -⟩:=hb;unfold maxLen at ham hbm;by_cases hlen:l.length=m.length
 · have HL:=ZZ hlen
   rw[← hlen] at hbc ⊢;clear hlen
   go_enter Tryz.func35,Tryz.ntmps35
   go_wp2
   go_loopw [5] (fun i wr=> ∃k m':Nat,k≤l.length∧i=.int .i64 k∧Hid (∀(j:Nat) x,j<k→l[j]? =some x→m[j]? =some x)∧wr=w.drewN m') (fun i _=>l.length - (intOf i).toNat)
   case atStart=>exact⟨0,0,Yu _,rfl,fun j _ hj _=>absurd hj (Nat.not_lt_zero j),rfl⟩
   case round=>
    obtain⟨k,m',hk,rfl,hno,rfl⟩:=hrel;by_cases hlt:k<l.length
    · obtain⟨x,hx⟩: ∃x,l[k]? =some x:=⟨_,Ya hlt⟩
      obtain⟨y,hy⟩: ∃y,m[k]? =some y:=⟨_,Ya (by rw[← HL.out];exact hlt)⟩
      obtain⟨b1,o1,rfl, -,c0,c1⟩:=ZM HA.out (Below.refl _ _) hx;obtain⟨b2,o2,rfl, -,d0,d1⟩:=ZM HB.out (Below.refl _ _) hy;have HX:=ZZ hx;have HY:=ZZ hy;clear hx hy;by_cases h1:x.1=y.1
      · by_cases h2:x.2=y.2
        · obtain rfl:x=y:=Prod.ext h1 h2
          clear h1 h2;go_wp2
          go_quiet (fail)
          go_wp2
          go_roundw
          case rel=>
           refine⟨k+1,_,by omega,by go_num,fun j z hj hz=>?_,rfl⟩;rcases Yq j k with h'|h'
           · exact hno.out j z h' hz
           · obtain rfl:j=k:=by omega
             rw[HX.out] at hz;rw[HY.out];exact hz
          case measure=>simp[intOf];omega
        · have HN:=ZZ (Yl (Zql HX.out HY.out fun e=>h2 (by rw[e])))
          rw[h1] at c0;go_wp2
          go_quiet (fail)
          go_wp2;go_ret;exact⟨Zb (by rw[HN.out]),((Only.refl _ _).drewN _).drewN _⟩
      · have HN:=ZZ (Yl (Zql HX.out HY.out fun e=>h1 (by rw[e])))
        go_wp2
        go_quiet (fail)
        go_wp2;go_ret;exact⟨Zb (by rw[HN.out]),((Only.refl _ _).drewN _).drewN _⟩
    · obtain rfl:k=l.length:=by omega
      have HN:=ZZ (Ym (Zrd HL.out hno.out));go_wp2;go_ret;exact⟨Zb (by rw[HN.out]),(Only.refl _ _).drewN _⟩
 · have HN:=ZZ (Yl (Zq9 hlen))
   have hn1: ¬((l.length:Int)=(m.length:Int)):=by omega
   go_enter Tryz.func35,Tryz.ntmps35
   go_wp2;go_ret;exact⟨Zb (by rw[HN.out]),Only.refl _ _⟩
end
section
open Go.RowKit
structure Cf where
 semi:Int
 large:Int
 slots:Int
 limit:Int
def Cf.ok (c:Cf):Prop:=2≤c.semi∧c.semi≤32768∧0≤c.large∧c.large≤32768∧1≤c.slots∧c.slots≤1024∧1≤c.limit∧c.limit≤c.semi
instance (c:Cf):Decidable c.ok:=by unfold Cf.ok;infer_instance
def Zo (c:Cf):Int:=if c.ok then c.semi+c.semi+c.large else 0
def ZbV (c:Cf) (n:Int):Sp:=if c.ok then(n * c.semi,c.semi) else(0,0)
def Zl (c:Cf) (s:Bool):Sp:=if s then ZbV c 1 else ZbV c 0
def cTo (c:Cf) (s:Bool):Sp:=Zl c (!s)
def Ze (c:Cf):Sp:=if c.ok∧c.large≠0 then(c.semi+c.semi,c.large) else(0,0)
def ZaU (c:Cf) (n:Int):Bool:=decide c.ok&&(decide (0<n)&&decide (n≤c.limit))
def I64 (z:Int):Prop:= -9223372036854775808≤z∧z≤9223372036854775807
structure CFit (c:Cf):Prop where
 fa:I64 c.semi
 fb:I64 c.large
 fc:I64 c.slots
 fd:I64 c.limit
def LyCheck:Prop:= ∀(c:Cf) (w:World),CFit c→Calls Tryz.prog 52 #[.agg #[.int .i64 c.semi,.int .i64 c.large,.int .i64 c.slots,.int .i64 c.limit]] w fun e w'=>e=.returned (.bool (decide c.ok))∧Only nob w w'
def LyWords:Prop:= ∀(c:Cf) (w:World),CFit c→Calls Tryz.prog 54 #[.agg #[.int .i64 c.semi,.int .i64 c.large,.int .i64 c.slots,.int .i64 c.limit]] w fun e w'=>e=.returned (.int .i64 (Zo c))∧Only nob w w'
def LyFrom:Prop:= ∀(c:Cf) (s:Bool) (w:World),CFit c→Calls Tryz.prog 79 #[.agg #[.int .i64 c.semi,.int .i64 c.large,.int .i64 c.slots,.int .i64 c.limit],.bool s] w fun e w'=>e=.returned (.agg #[.int .i64 (Zl c s).1,.int .i64 (Zl c s).2])∧Only nob w w'
def LyLarge:Prop:= ∀(c:Cf) (w:World),CFit c→Calls Tryz.prog 56 #[.agg #[.int .i64 c.semi,.int .i64 c.large,.int .i64 c.slots,.int .i64 c.limit]] w fun e w'=>e=.returned (.agg #[.int .i64 (Ze c).1,.int .i64 (Ze c).2])∧Only nob w w'
def LySmall:Prop:= ∀(c:Cf) (n:Int) (w:World),CFit c→I64 n→Calls Tryz.prog 80 #[.agg #[.int .i64 c.semi,.int .i64 c.large,.int .i64 c.slots,.int .i64 c.limit],.int .i64 n] w fun e w'=>e=.returned (.bool (ZaU c n))∧Only nob w w'
structure CBox (W:World) (b:Nat) (c:Cf):Prop where
 c0:W.cell? ⟨b,0,none⟩=some (.int .i64 c.semi)
 c1:W.cell? ⟨b,1,none⟩=some (.int .i64 c.large)
 c2:W.cell? ⟨b,2,none⟩=some (.int .i64 c.slots)
 c3:W.cell? ⟨b,3,none⟩=some (.int .i64 c.limit)
theorem CBox.keep {W W':World} {b:Nat} {c:Cf} (h:CBox W b c) (o:Only nob W W'):CBox W' b c:=⟨o.keeps h.c0,o.keeps h.c1,o.keeps h.c2,o.keeps h.c3⟩
theorem CBox.new (w:World) (c:Cf):CBox (w.alloc (.cells #[.int .i64 c.semi,.int .i64 c.large,.int .i64 c.slots,.int .i64 c.limit] 23)) w.heap.size c:=by
 have h:=Blk.new w 23 #[.int .i64 c.semi,.int .i64 c.large,.int .i64 c.slots,.int .i64 c.limit];exact⟨h.cell 0,h.cell 1,h.cell 2,h.cell 3⟩
theorem ZbD (w:World) (c:Cf):Only nob w (w.alloc (.cells #[.int .i64 c.semi,.int .i64 c.large,.int .i64 c.slots,.int .i64 c.limit] 23)):=(Only.refl nob w).alloc _
theorem Zg6 {w W:World} (o:Only nob w W) {b:Nat} (hb:w.heap.size≤b) (B:Blk W b 61 #[.int .i64 0,.int .i64 0]) (x y:Int):
 ∃W4,((W.setCell ⟨b,0,none⟩ (.int .i64 x)).setCell ⟨b,1,none⟩ (.int .i64 y))=W4∧Only nob w W4∧W4.cell? ⟨b,0,none⟩=some (.int .i64 x)∧W4.cell? ⟨b,1,none⟩=some (.int .i64 y):=by
 have B4:Blk ((W.setCell ⟨b,0,none⟩ (.int .i64 x)).setCell ⟨b,1,none⟩ (.int .i64 y)) b 61 #[.int .i64 x,.int .i64 y]:=by simpa using(B.put 0 (.int .i64 x)).put 1 (.int .i64 y)
 exact⟨_,rfl,(o.setCell (p:=⟨b,0,none⟩) (fun h=>absurd h (Nat.not_lt_of_le hb)) _).setCell (p:=⟨b,1,none⟩) (fun h=>absurd h (Nat.not_lt_of_le hb)) _,B4.cell 0,B4.cell 1⟩
end
end Go.Proofs.YtknoncenblehkaaGreatDoor
