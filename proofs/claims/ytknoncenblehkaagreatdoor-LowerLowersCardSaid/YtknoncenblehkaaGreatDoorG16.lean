/- Plain mathematics of tables of spans: where one belongs, wha -/
import Derived.Test.YtknoncenblehkaaGreatDoorG15
import Derived.Lib.Overlaps
import Derived.Lib.SlBuf
set_option maxRecDepth 100000
set_option maxHeartbeats 32000000
set_option linter.unusedSimpArgs false
set_option linter.unusedVariables false
namespace Go.Proofs.YtknoncenblehkaaGreatDoor
section
def ZdZ (l:List Sp) (a:Int):Nat:=l.findIdx fun x=>decide (a<x.1)
theorem ZjW {l:List Sp} {a:Int} {k:Nat} {x:Sp} (hx:l[k]? =some x) (h:a<x.1) (hb: ∀(j:Nat) y,j<k→l[j]? =some y→y.1≤a):ZdZ l a=k:=by
 obtain⟨hk,rfl⟩:=Yj.1 hx;unfold ZdZ;rw[List.findIdx_eq hk];exact⟨Yl h,fun j hj=>Yk (by have:=hb j _ hj (Ya (by omega));omega)⟩
theorem Zeu {l:List Sp} {a:Int} (hb: ∀(j:Nat) y,j<l.length→l[j]? =some y→y.1≤a):ZdZ l a=l.length:=by
 unfold ZdZ;refine List.findIdx_eq_length_of_false fun x hx=>?_;obtain⟨j,hj,rfl⟩:=List.getElem_of_mem hx;exact Yk (by have:=hb j _ hj (Ya hj);omega)
def Zee (l:List Sp) (k:Nat) (s:Sp):List Sp:=l.take k++s::l.drop k
theorem Zfp {l:List Sp} {k:Nat} (s:Sp) (h:k≤l.length):(Zee l k s).length=l.length+1:=by
 unfold Zee;simp;omega
theorem Zkn (l:List Sp) (s:Sp):Zee l l.length s=l++[s]:=by unfold Zee;simp
def Zhg (l:List Sp) (s:Sp):List Sp×Int:=
 if ¬s.ok then(l,1) else if l.any (fun x=>decide (Sp.meets x s))=true then(l,16) else(Zee l (ZdZ l s.1) s,0)
theorem ZlJ {l:List Sp} {s:Sp} (h: ¬s.ok):Zhg l s=(l,1):=by unfold Zhg;rw[if_pos h]
theorem ZiM {l:List Sp} {s:Sp} (h:s.ok) (hm:l.any (fun x=>decide (Sp.meets x s))=true):Zhg l s=(l,16):=by unfold Zhg;rw[if_neg (fun hn=>hn h),if_pos hm]
theorem Zj2 {l:List Sp} {s:Sp} (h:s.ok) (hm:l.any (fun x=>decide (Sp.meets x s))=false):Zhg l s=(Zee l (ZdZ l s.1) s,0):=by unfold Zhg;rw[if_neg (fun hn=>hn h),if_neg (by rw[hm];exact Bool.noConfusion)]
theorem Ze9 {l:List Sp} {s:Sp}:l.any (fun x=>decide (Sp.meets x s))=false↔ ∀x∈l, ¬Sp.meets x s:=by
 rw[List.any_eq_false];exact⟨fun h x hx hm=>h x hx (Yl hm),fun h x hx hm=>h x hx (of_decide_eq_true hm)⟩
def Zbm (all:Sp) (l m:List Sp):Prop:=(∀x∈l,Sp.within x all)∧l.Pairwise (fun x y=>x.1≤y.1)∧Z7 l∧Joined m∧ ∀p,cov m p↔all.has p∧ ¬cov l p
noncomputable instance (all:Sp) (l m:List Sp):Decidable (Zbm all l m):=Classical.propDecidable _
theorem Zjp {all:Sp} {l m O:List Sp} (h1: ∀x∈l,Sp.within x all) (h2:l.Pairwise (fun x y=>x.1≤y.1)) (h3:Z7 l) (hj:Joined O) (hc: ∀p,cov O p↔all.has p∧ ¬cov l p):decide (Zbm all l m)=decide (m=O):=by
 rw[Bool.eq_iff_iff,decide_eq_true_iff,decide_eq_true_iff];constructor
 · rintro⟨-, -, -,hm,hcm⟩
   exact Za9 hm hj fun p=>(hcm p).trans (hc p).symm
 · rintro rfl
   exact⟨h1,h2,h3,hj,hc⟩
theorem ZiJ {l:List Sp} (h: ∀(j:Nat) y x,l[j]? =some y→l[j+1]? =some x→y.1≤x.1):l.Pairwise fun x y=>x.1≤y.1:=by
 refine List.pairwise_iff_getElem.2 fun i j hi hj hij=>?_
 have step: ∀(d i:Nat) (hi:i<l.length) (hj:i+d+1<l.length),(l[i]).1≤(l[i+d+1]).1:=by
  intro d
  induction d with
  |zero=>intro i hi hj;exact h i _ _ (Ya hi) (Ya hj)
  |succ d ih=>
   intro i hi hj;have h1:=ih i hi (by omega);have h2:=h (i+d+1) _ _ (Ya (by omega)) (Ya (show i+d+1+1<l.length by omega));have h5:(l[i+(d+1)+1]).1=(l[i+d+1+1]).1:=congrArg Prod.fst (by congr 1);omega
 have:=step (j - i - 1) i hi (by omega)
 have h4:(l[i+(j - i - 1)+1]).1=(l[j]).1:=congrArg Prod.fst (by congr 1;omega);omega
theorem Zh6 {l:List Sp} {j:Nat} {y x:Sp} (hy:l[j]? =some y) (hx:l[j+1]? =some x) (h:x.1<y.1): ¬l.Pairwise fun x y=>x.1≤y.1:=by
 intro hp;obtain⟨h1,rfl⟩:=Yj.1 hx;obtain⟨h2,rfl⟩:=Yj.1 hy
 have:=List.pairwise_iff_getElem.1 hp j (j+1) h2 h1 (by omega)
 omega
theorem ZeQ {l:List Sp} (ho: ∀x∈l,Sp.ok x) (h:l.Pairwise fun x y=>x.1+x.2≤y.1):l.Pairwise (fun x y=>x.1≤y.1)∧Z7 l:=by
 refine⟨List.pairwise_iff_getElem.2 fun i j hi hj hij=>?_,ho,List.pairwise_iff_getElem.2 fun i j hi hj hij=>?_⟩
 · have h1:=List.pairwise_iff_getElem.1 h i j hi hj hij
   have:=(ho _ (List.getElem_mem hi)).2.1
   omega
 · have h1:=List.pairwise_iff_getElem.1 h i j hi hj hij
   rw[Zde (ho _ (List.getElem_mem hj)) (ho _ (List.getElem_mem hi))];omega
end
section
open Go.RowKit Go.Lib Go.Shelf
theorem Zfv {P:Program} {w:World} (dT sT ty elem:TypeId) (i:TypeInfo) (z n:Nat) (hu:P.underlying dT=some (.slice elem)) (hi:P.info? elem=some i) (hz:i.size=z)
 (g off dLen dCap b o sLen sCap:Nat) (cur:Array Value) (t:TypeId) (hg:Blk w g t cur) (news:List Value) (hn:Nat.min sLen dLen=n) (hnl:news.length=n * z) (hfit:off+news.length≤cur.size)
 (hsrc: ∀j v,news[j]? =some v→w.cell? ⟨b,o+j,none⟩=some v) (h1: ∀v∈news,v.oneCell'=true):
 (Builtin.copy_ #[dT,sT] ty #[.slice (some ⟨g,off,none⟩) dLen dCap,.slice (some ⟨b,o,none⟩) sLen sCap]).run P w=.ok (goInt n) (w.setCells g off news):=by
 subst hz;have hf:=run_firstCells_some (P:=P) w i.size n ⟨b,o,none⟩ sLen sCap news hnl (fun j v hj=>by rw[Addr.add_lit];exact hsrc j v hj);have hst:=run_storeCells_cells (P:=P) g off news 0 w (fun j hj=>by rw[Nat.add_zero,hg.cell,Array.getElem?_eq_getElem (by omega)];rfl) (fun j hj=>by rw[hg.free]) h1;rw[Nat.add_zero] at hst;simp[Builtin.copy_,run_underlying hu,Builtin.lenOf,sizeOf,typeInfo,hi,hn,hf,hst]
end
section
open Go.RowKit Go.Lib Go.Sort
theorem ZhD:Tryz.prog.follows .mixedOrders=true:=by kernel_rfl
theorem Zig (all:Sp) (gp:Nat) (ha:Fit all) (x:Sp) (hx:Fit x) (w:World) (hb:Blk w gp 61 #[.int .i64 all.1,.int .i64 all.2]):
 Calls Tryz.prog 169 #[.agg #[.int .i64 x.1,.int .i64 x.2],.pointer (some ⟨gp,0,none⟩)] w fun e w'=>e=.returned (.bool (!decide (Sp.within x all)))∧Only nob w w':=by
 have hb2:=hb.alloc (.cells #[.int .i64 x.1,.int .i64 x.2] 61);have hb0:=hb2.cell 0;have hb1:=hb2.cell 1;simp at hb0 hb1;clear hb hb2
 obtain⟨q,hq⟩: ∃q,q=decide (Sp.within x all):=⟨_,rfl⟩
 have HQ:=ZZ hq;rw[← hq];clear hq
 go_enter Tryz.func169,Tryz.ntmps169
 go_wp2_with fail
 go_at_call 125;refine(ZhT x all hx ha _).mono ?_;rw[← HQ.out];rintro e w1 ⟨rfl,o⟩;have O:=ZZ (((Only.refl nob w).alloc (.cells #[.int .i64 x.1,.int .i64 x.2] 61)).trans o);clear o;go_wp2;go_ret;exact⟨rfl,O.out⟩
theorem Zbc {all:Sp} {gp:Nat} {w:World} (ha:Fit all) (hb:Blk w gp 61 #[.int .i64 all.1,.int .i64 all.2]):Zpo 169 #[.pointer (some ⟨gp,0,none⟩)] (fun x=>!decide (Sp.within x all)) w:=
 ⟨enters_of Tryz.func169 (by kernel_rfl) rfl,fun x hx W hW=>Zig all gp ha x hx W (hb.keep hW id)⟩
theorem ZlG (x y:Sp) (w:World):Calls Tryz.prog 172 #[.agg #[.int .i64 x.1,.int .i64 x.2],.agg #[.int .i64 y.1,.int .i64 y.2]] w fun e w'=>e=.returned (.int .i64 (ZhU x.1 y.1))∧Only nob w w':=by
 have O:=ZZ (((Only.refl nob w).alloc (.cells #[.int .i64 x.1,.int .i64 x.2] 61)).alloc (.cells #[.int .i64 y.1,.int .i64 y.2] 61))
 go_enter Tryz.func172,Tryz.ntmps172
 go_wp2_with fail
 go_at_call 183;refine(ZdD _ _ _).mono ?_;rintro e w1 ⟨rfl,rfl⟩;go_wp2;go_ret;exact⟨rfl,O.out⟩
theorem Zg7 {a b:Int}:ZhU a b<0↔a<b:=by
 unfold ZhU
 split
 · constructor <;> intro <;> omega
 · split <;> constructor <;> intro <;> omega
abbrev Zpr:Value:=.func (.func 172) #[] #[]
theorem ZbD (v:Value) (l:List Sp) (B:Nat) (w:World) (h:Sl w B 2 v l.length (spc l)) (hB:B≤w.heap.size):
 Calls Tryz.prog 171 #[v,Zpr] w fun e w'=>e=.returned (.bool (decide (l.Pairwise fun x y=>x.1≤y.1)))∧Only nob w w':=by
 have HA:=ZZ h;obtain⟨A,ca,rfl,hac,ham, -⟩:=h;unfold maxLen at ham;rcases Nat.eq_zero_or_pos l.length with h0|h0
 · obtain rfl:=List.eq_nil_of_length_eq_zero h0
   clear h0
   go_enter Tryz.func171,Tryz.ntmps171
   go_wp2
   go_loopw [5] (fun i wr=>i=.int .i64 (-1)∧wr=w) (fun _ _=>0)
   case atStart=>exact⟨rfl,rfl⟩
   case round=>
    obtain⟨rfl,rfl⟩:=hrel;go_wp2;go_ret;exact⟨rfl,Only.refl _ _⟩
 · go_enter Tryz.func171,Tryz.ntmps171
   go_wp2
   go_loopw [5] (fun i wr=> ∃k:Nat,k<l.length∧i=.int .i64 k∧Hid (∀(j:Nat) y x,k≤j→l[j]? =some y→l[j+1]? =some x→y.1≤x.1)∧Hid (Only nob w wr)) (fun i _=>(intOf i).toNat)
   case atStart=>
    refine⟨l.length - 1,by omega,?_,fun j y x hj _ hx=>?_,Only.refl _ _⟩
    · show Value.int .i64 _=Value.int .i64 _
      congr 1
      omega
    · have:=(Yj.1 hx).1
      omega
   case round=>
    obtain⟨k,hk,rfl,HS,HX⟩:=hrel;rcases Nat.eq_zero_or_pos k with rfl|hk0
    · have HK:=ZZ (Yl (ZiJ fun j y x=>HS.out j y x (Yt _)))
      go_wp2;go_ret;exact⟨Za (by rw[HK.out]),HX.out⟩
    · obtain⟨m,rfl⟩: ∃m,k=m+1:=⟨k - 1,by omega⟩
      obtain⟨x,hx⟩: ∃x,l[m+1]? =some x:=⟨_,Ya hk⟩
      obtain⟨y,hy⟩: ∃y,l[m]? =some y:=⟨_,Ya (by omega)⟩
      obtain⟨b,o,rfl,hb,c0,c1⟩:=Zy HA.out (HX.out.below hB fun _ h=>h.elim) hx;obtain⟨b3,o3,e3, -,d0,d1⟩:=Zy HA.out (HX.out.below hB fun _ h=>h.elim) hy
      obtain⟨rfl,rfl⟩:b3=b∧o3=o:=by simpa using e3.symm
      have HXX:=ZZ hx;have HY:=ZZ hy
      obtain⟨c,hc⟩: ∃c,c=ZhU x.1 y.1:=⟨_,rfl⟩
      have HC:=ZZ hc
      have H1:=ZZ (show ∀(n:Nat) (os:Array Obj),Calls Tryz.prog 172 #[.agg #[.int .i64 x.1,.int .i64 x.2],.agg #[.int .i64 y.1,.int .i64 y.2]] (wat wr n os) fun e w'=>e=.returned (.int .i64 c)∧Only nob (wat wr n os) w' from fun n os=>by
       rw[hc];exact ZlG x y _)
      have g0:=Zh c0;have g1:=Zh c1;have g2:=Zh d0;have g3:=Zh d1;clear hx hy hc e3 c0 c1 d0 d1
      have jz:(m:Int)+1<(l.length:Int):=by omega
      have jz1:(m:Int)<(l.length:Int):=by omega
      have p0:(0:Int)≤(m:Int)+1:=by omega
      have e0:((m:Int)+1).toNat=m+1:=by omega
      have hwp:IntKind.i64.wrap (m:Int)=(m:Int):=by rw[IntKind.wrap_i64];omega
      by_cases hlt:c<0
      · have HN:=ZZ (Yk (Zh6 HY.out HXX.out (Zg7.1 (by rw[← HC.out];exact hlt))))
        go_wp2_with fail
        refine Zm ZhD (by kernel_rfl) ?_
        repeat (quiet_step ((go_at_call 172;with_reducible refine Zq (H1.out _ _))))
        refine wpQuiet_nil ?_;rintro w' ⟨⟨nq,osq⟩,rfl⟩;obtain⟨W3,hW3,O4⟩:=Zt wr nq osq;rw[hW3];clear hW3 g0 g1 g2 g3;have O5:=ZZ (HX.out.trans O4.out);go_wp2;go_ret;exact⟨Za (by rw[HN.out]),O5.out⟩
      · have HN:=ZZ (show y.1≤x.1 by
         have: ¬x.1<y.1:=fun e=>hlt (by rw[HC.out];exact Zg7.2 e)
         omega)
        go_wp2_with fail
        refine Zm ZhD (by kernel_rfl) ?_
        repeat (quiet_step ((go_at_call 172;with_reducible refine Zq (H1.out _ _))))
        refine wpQuiet_nil ?_;rintro w' ⟨⟨nq,osq⟩,rfl⟩;obtain⟨W3,hW3,O4⟩:=Zt wr nq osq;rw[hW3];clear hW3 g0 g1 g2 g3;have O5:=ZZ (HX.out.trans O4.out);go_wp2
        go_roundw
        case rel=>
         refine⟨m,by omega,by go_num,fun j z u hj hz hu=>?_,O5.out⟩;rcases Yp m j with h'|h'
         · exact HS.out j z u h' hz hu
         · obtain rfl:j=m:=by omega
           rw[HY.out] at hz;rw[HXX.out] at hu;obtain rfl:=Yo hz;obtain rfl:=Yo hu;exact HN.out
        case measure=>simp[intOf]
def SpTable:Prop:= ∀(all:Sp) (v u:Value) (l m:List Sp) (B:Nat) (w:World),Sl w B 2 v l.length (spc l)→Sl w B 2 u m.length (spc m)→B≤w.heap.size→l.length≤10000→ZfO l→Fit all→
 Calls Tryz.prog 141 #[.agg #[.int .i64 all.1,.int .i64 all.2],v,u] w fun e w'=>e=.returned (.bool (decide (Zbm all l m)))∧Only nob w w'
theorem Zn4:SpTable:=by
 intro all v u l m B w h k hB hl hf ha;have HA:=ZZ h;have HU:=ZZ k;have HF:=ZZ hf;obtain⟨A,ca,rfl, -, -⟩:=h.form;obtain⟨A',ca',rfl, -, -⟩:=k.form;have HB:=ZZ (Blk.new w 61 #[.int .i64 all.1,.int .i64 all.2]);have O0:=ZZ ((Only.refl nob w).alloc (.cells #[.int .i64 all.1,.int .i64 all.2] 61));clear h k hf
 obtain⟨q,hq⟩: ∃q,q=l.any (fun x=>!decide (Sp.within x all)):=⟨_,rfl⟩
 have HQ:=ZZ hq;clear hq
 cases q with
 |true=>
  have HK:=ZZ (show decide (Zbm all l m)=false from Yk fun h=>by have:=Zex.2 h.1;rw[← HQ.out] at this;cases this)
  go_enter Tryz.func141,Tryz.ntmps141
  go_wp2_with fail
  go_at_call 170;refine(Z1 _ _ _ _ l B _ (Zbc ha HB.out) (HA.out.below (O0.out.below hB fun _ h=>h.elim)) (Yh hB O0.out.size) HF.out).mono ?_;rw[← HQ.out];rintro e w1 ⟨rfl,o⟩;have O1:=ZZ (O0.out.trans o);clear o;go_wp2;go_ret;exact⟨Za (by rw[HK.out]),O1.out⟩
 |false=>
  have HW:=ZZ (Zex.1 HQ.out.symm);by_cases h2:l.Pairwise fun x y=>x.1≤y.1
  · have H2:=ZZ h2
    have HD2:=ZZ (Yl h2);clear h2;by_cases h3:Z7 l
    · have H3:=ZZ h3
      have HD3:=ZZ (Yl h3);clear h3
      go_enter Tryz.func141,Tryz.ntmps141
      go_wp2_with fail
      go_at_call 170;refine(Z1 _ _ _ _ l B _ (Zbc ha HB.out) (HA.out.below (O0.out.below hB fun _ h=>h.elim)) (Yh hB O0.out.size) HF.out).mono ?_;rw[← HQ.out];rintro e w1 ⟨rfl,o⟩;have O1:=ZZ (O0.out.trans o);have HB1:=ZZ (HB.out.keep o id);clear o
      go_wp2_with fail
      go_at_call 171;refine(ZbD _ l B _ (HA.out.below (O1.out.below hB fun _ h=>h.elim)) (Yh hB O1.out.size)).mono ?_;rw[HD2.out];rintro e w2 ⟨rfl,o⟩;have O2:=ZZ (O1.out.trans o);have HB2:=ZZ (HB1.out.keep o id);clear o
      go_wp2_with fail
      go_at_call 173;refine(Zj1 _ l B _ (HA.out.below (O2.out.below hB fun _ h=>h.elim)) (Yh hB O2.out.size) (by omega) HF.out).mono ?_;rw[HD3.out];rintro e w3 ⟨rfl,o⟩;have O3:=ZZ (O2.out.trans o);have HB3:=ZZ (HB2.out.keep o id);have c0:=HB3.out.cell 0;have c1:=HB3.out.cell 1;simp at c0 c1;clear o
      go_wp2_with fail
      go_at_call 55;refine(ZkU all _ l B _ (HA.out.below (O3.out.below hB fun _ h=>h.elim)) (Yh hB O3.out.size) (by omega) HF.out ha).mono ?_;rintro e w4 ⟨v4,O,rfl,hj,hc,hsl,o⟩;have HE:=ZZ (Zjp (m:=m) HW.out H2.out H3.out hj hc);have S4:=ZZ hsl;have O4:=ZZ (O3.out.trans o);clear hj hc hsl o c0 c1
      go_wp2_with fail
      go_at_call 174;refine(Zko _ _ m O B _ w4 (HU.out.below (O4.out.below hB fun _ h=>h.elim)) S4.out).mono ?_;rw[← HE.out]
      obtain⟨j,hj⟩: ∃j,j=decide (Zbm all l m):=⟨_,rfl⟩
      rw[← hj];have HJ:=ZZ hj;clear hj;rintro e w5 ⟨rfl,o⟩;have O5:=ZZ (O4.out.trans o);clear o;go_wp2;go_ret;exact⟨Za (by rw[HJ.out]),O5.out⟩
    · have HK:=ZZ (show decide (Zbm all l m)=false from Yk fun h=>h3 h.2.2.1)
      have HD3:=ZZ (Yk h3);clear h3
      go_enter Tryz.func141,Tryz.ntmps141
      go_wp2_with fail
      go_at_call 170;refine(Z1 _ _ _ _ l B _ (Zbc ha HB.out) (HA.out.below (O0.out.below hB fun _ h=>h.elim)) (Yh hB O0.out.size) HF.out).mono ?_;rw[← HQ.out];rintro e w1 ⟨rfl,o⟩;have O1:=ZZ (O0.out.trans o);clear o
      go_wp2_with fail
      go_at_call 171;refine(ZbD _ l B _ (HA.out.below (O1.out.below hB fun _ h=>h.elim)) (Yh hB O1.out.size)).mono ?_;rw[HD2.out];rintro e w2 ⟨rfl,o⟩;have O2:=ZZ (O1.out.trans o);clear o
      go_wp2_with fail
      go_at_call 173;refine(Zj1 _ l B _ (HA.out.below (O2.out.below hB fun _ h=>h.elim)) (Yh hB O2.out.size) (by omega) HF.out).mono ?_;rw[HD3.out];rintro e w3 ⟨rfl,o⟩;have O3:=ZZ (O2.out.trans o);clear o;go_wp2;go_ret;exact⟨Za (by rw[HK.out]),O3.out⟩
  · have HK:=ZZ (show decide (Zbm all l m)=false from Yk fun h=>h2 h.2.1)
    have HD2:=ZZ (Yk h2);clear h2
    go_enter Tryz.func141,Tryz.ntmps141
    go_wp2_with fail
    go_at_call 170;refine(Z1 _ _ _ _ l B _ (Zbc ha HB.out) (HA.out.below (O0.out.below hB fun _ h=>h.elim)) (Yh hB O0.out.size) HF.out).mono ?_;rw[← HQ.out];rintro e w1 ⟨rfl,o⟩;have O1:=ZZ (O0.out.trans o);clear o
    go_wp2_with fail
    go_at_call 171;refine(ZbD _ l B _ (HA.out.below (O1.out.below hB fun _ h=>h.elim)) (Yh hB O1.out.size)).mono ?_;rw[HD2.out];rintro e w2 ⟨rfl,o⟩;have O2:=ZZ (O1.out.trans o);clear o;go_wp2;go_ret;exact⟨Za (by rw[HK.out]),O2.out⟩
end
end Go.Proofs.YtknoncenblehkaaGreatDoor
