/- Walks over objects, in plain words: what is met, where it en -/
import Derived.Test.YtknoncenblehkaaGreatDoorG07
import Derived.Test.YtknoncenblehkaaGreatDoorG12
import Derived.Test.YtknoncenblehkaaGreatDoorG13
set_option maxRecDepth 100000
set_option maxHeartbeats 32000000
set_option linter.unusedSimpArgs false
set_option linter.unusedVariables false
namespace Go.Proofs.YtknoncenblehkaaGreatDoor
section
open Go.RowKit
structure Hd where
 e:Int
 k:Int
 f:Int
 r:Int
 m:Bool
 c:Int
def Zll (h:Int→Hd):Prop:= ∀a,(h a).e=0→hmay (h a).k (h a).f (h a).r (h a).c=true
def osz (h:Int→Hd) (a:Int):Int:=1+(h a).f+(h a).r
def swE (h:Int→Hd) (top a:Int):Int:=if(h a).e=0 then(if osz h a≤top - a then 0 else 2) else(h a).e
structure It where
 at_:Int
 k:Int
 f:Int
 r:Int
 m:Bool
 c:Int
 e:Int
def Zey (h:Int→Hd) (top a:Int):It:=if swE h top a=0 then⟨a,(h a).k,(h a).f,(h a).r,(h a).m,(h a).c,0⟩ else⟨a,0,0,0,false,0,swE h top a⟩
def trF (h:Int→Hd) (top:Int):Nat→Int→List It
 |0,_=>[]
 |n+1,a=>if a<top then Zey h top a::(if swE h top a=0 then trF h top n (a+osz h a) else[]) else[]
def tr (h:Int→Hd) (top a:Int):List It:=trF h top (top - a).toNat a
def Zmo:It:=⟨0,0,0,0,false,0,1⟩
def may9 (x:Sp) (top:Int):Prop:=x.ok∧x.1≤top∧top≤x.1+x.2
instance (x:Sp) (top:Int):Decidable (may9 x top):=by unfold may9;infer_instance
def Zad (h:Int→Hd) (x:Sp) (top:Int):List It:=if may9 x top then tr h top x.1 else[Zmo]
section
variable {h:Int→Hd} {top a:Int}
theorem Zhe:(Zey h top a).e=swE h top a:=by unfold Zey;split <;> simp_all
theorem Za8:(Zey h top a).at_=a:=by unfold Zey;split <;> rfl
theorem ZcH (H:Zll h) (he:(h a).e=0):1≤osz h a∧osz h a≤8193:=by
 have:=ZF.1 (H a he)
 unfold osz;omega
theorem ZbZ (hs:swE h top a=0):(h a).e=0∧osz h a≤top - a:=by
 unfold swE at hs
 split at hs
 · rename_i h0
   split at hs
   · exact⟨h0,by assumption⟩
   · cases hs
 · exact absurd hs (by assumption)
theorem ZpA (h0:(h a).e=0) (h1:osz h a≤top - a):swE h top a=0:=by unfold swE;rw[if_pos h0,if_pos h1]
theorem ZkX (hs:swE h top a=0):Zey h top a=⟨a,(h a).k,(h a).f,(h a).r,(h a).m,(h a).c,0⟩:=by unfold Zey;rw[if_pos hs]
theorem ZnR (hs:swE h top a≠0):Zey h top a=⟨a,0,0,0,false,0,swE h top a⟩:=by unfold Zey;rw[if_neg hs]
theorem Zb2 (n:Nat) (ha: ¬a<top):trF h top n a=[]:=by cases n <;> simp[trF,ha]
theorem ZgW (H:Zll h): ∀(n m:Nat) (a:Int),(top - a).toNat≤n→(top - a).toNat≤m→trF h top n a=trF h top m a
 |0,m,a,hn,_=>by rw[Zb2 0 (by omega),Zb2 m (by omega)]
 |n+1,0,a,_,hm=>by rw[Zb2 0 (by omega),Zb2 (n+1) (by omega)]
 |n+1,m+1,a,hn,hm=>by
  by_cases ha:a<top
  · simp only[trF,if_pos ha]
    by_cases hs:swE h top a=0
    · have:=ZcH H (ZbZ hs).1
      rw[if_pos hs,if_pos hs,ZgW H n m (a+osz h a) (by omega) (by omega)]
    · rw[if_neg hs,if_neg hs]
  · rw[Zb2 _ ha,Zb2 _ ha]
theorem Zh1 (ha: ¬a<top):tr h top a=[]:=Zb2 _ ha
theorem ZhW (ha:a<top) (hs:swE h top a≠0):tr h top a=[Zey h top a]:=by
 unfold tr
 obtain⟨n,hn⟩: ∃n,(top - a).toNat=n+1:=⟨(top - a).toNat - 1,by omega⟩
 rw[hn];simp only[trF,if_pos ha,if_neg hs]
theorem ZjA (H:Zll h) (ha:a<top) (hs:swE h top a=0):tr h top a=Zey h top a::tr h top (a+osz h a):=by
 have h1:=ZcH H (ZbZ hs).1;unfold tr
 obtain⟨n,hn⟩: ∃n,(top - a).toNat=n+1:=⟨(top - a).toNat - 1,by omega⟩
 rw[hn];simp only[trF,if_pos ha,if_pos hs];rw[ZgW H n (top - (a+osz h a)).toNat _ (by omega) (Yi _)]
end
theorem ZmT {h:Int→Hd} (H:Zll h) (top:Int) {P:Int→Prop} (h0: ∀a, ¬a<top→P a) (h1: ∀a,a<top→swE h top a≠0→P a) (h2: ∀a,a<top→swE h top a=0→P (a+osz h a)→P a) (a:Int):P a:=by
 suffices ∀(n:Nat) (a:Int),(top - a).toNat≤n→P a from this _ a (Yi _)
 intro n
 induction n with
 |zero=>intro a hn;exact h0 a (by omega)
 |succ n ih=>
  intro a hn;by_cases ha:a<top
  · by_cases hs:swE h top a=0
    · have:=ZcH H (ZbZ hs).1
      exact h2 a ha hs (ih _ (by omega))
    · exact h1 a ha hs
  · exact h0 a ha
def bad (L:List It):Option It:=L.find? fun y=>y.e !=0
theorem Zhi {L:List It} (h: ∀y∈L,y.e=0):bad L=none:=by
 unfold bad;rw[List.find?_eq_none];intro y hy;simp[h y hy]
theorem ZlO {P R:List It} {y:It} (h: ∀z∈P,z.e=0) (hy:y.e≠0):bad (P++y::R)=some y:=by
 have hn:=Zhi h
 have hy':(y.e !=0)=true:=by simpa using hy
 unfold bad at hn ⊢;rw[List.find?_append,hn,List.find?_cons,hy'];rfl
theorem ZoB {L:List It} (h:bad L=none): ∀y∈L,y.e=0:=by
 unfold bad at h;rw[List.find?_eq_none] at h;intro y hy;simpa using h y hy
def wkP (L:List It) (top:Int):Int:=(bad L).elim top (·.at_)
def wkE (L:List It):Int:=(bad L).elim 0 (·.e)
def ats (L:List It):List Int:=L.map (·.at_)
theorem ZhX (l:List It) (y:It):ats (l++[y])=ats l++[y.at_]:=by simp[ats]
theorem Zjf (l:List It):(ats l).length=l.length:=by simp[ats]
def wkL (L:List It):List Int:=if bad L=none then ats L else[]
theorem Zlz {L:List It} (h: ∀y∈L,y.e=0) (top:Int):wkP L top=top∧wkE L=0∧wkL L=ats L:=by
 unfold wkP wkE wkL;rw[Zhi h];exact⟨rfl,rfl,rfl⟩
theorem Zpx {P R:List It} {y:It} (h: ∀z∈P,z.e=0) (hy:y.e≠0) (top:Int):wkP (P++y::R) top=y.at_∧wkE (P++y::R)=y.e∧wkL (P++y::R)=[]:=by
 unfold wkP wkE wkL;rw[ZlO h hy];exact⟨rfl,rfl,rfl⟩
theorem Zl2 {L:List It} (h:wkE L=0): ∀y∈L,y.e=0:=by
 cases hb:bad L with
 |none=>exact ZoB hb
 |some y=>
  unfold wkE at h;rw[hb] at h;have h1:y.e=0:=h;have h2:=List.find?_some hb;simp[h1] at h2
section
variable {h:Int→Hd} (H:Zll h) {top:Int}
include H
theorem ZoY (a:Int): ∀y∈tr h top a,y=Zey h top y.at_∧a≤y.at_∧y.at_<top∧(y.e=0→y.at_+osz h y.at_≤top):=by
 refine ZmT H top (P:=fun a=> ∀y∈tr h top a,y=Zey h top y.at_∧a≤y.at_∧y.at_<top∧(y.e=0→y.at_+osz h y.at_≤top)) ?_ ?_ ?_ a
 · intro a ha y hy
   rw[Zh1 ha] at hy;cases hy
 · intro a ha hs y hy
   rw[ZhW ha hs,Ys] at hy;subst hy;exact⟨by rw[Za8],by rw[Za8];exact Int.le_refl _,by rw[Za8];exact ha,fun he=>by rw[Zhe] at he;exact absurd he hs⟩
 · intro a ha hs ih y hy
   rw[ZjA H ha hs] at hy;have hz:=ZbZ hs;rcases List.mem_cons.1 hy with rfl|hy
   · exact⟨by rw[Za8],by rw[Za8];exact Int.le_refl _,by rw[Za8];exact ha,fun _=>by rw[Za8];omega⟩
   · have:=ZcH H hz.1
     obtain⟨h1,h2,h3⟩:=ih y hy;exact⟨h1,by omega,h3⟩
theorem ZmF (a:Int):((tr h top a).length:Int)≤if a<top then top - a else 0:=by
 refine ZmT H top (P:=fun a=>((tr h top a).length:Int)≤if a<top then top - a else 0) ?_ ?_ ?_ a
 · intro a ha
   rw[Zh1 ha,if_neg ha];simp
 · intro a ha hs
   rw[ZhW ha hs,if_pos ha];simp;omega
 · intro a ha hs ih
   have:=ZcH H (ZbZ hs).1
   rw[ZjA H ha hs,if_pos ha];simp only[List.length_cons]
   split at ih <;> omega
end
section
variable {h:Int→Hd} (H:Zll h) {top:Int}
include H
end
end
section
open Go.RowKit
theorem Below.onlyF {n0:Nat} {w w':World} (h:Below n0 w w'):Only (fun k=>n0≤k) w w':=⟨h.os,h.tape,h.output,h.size,fun k _ hn=>h.block k (Nat.lt_of_not_le hn)⟩
theorem Below.trans_only {n0:Nat} {a b c:World} (h:Below n0 a b) (o:Only nob b c) (hn:n0≤a.heap.size):Below n0 a c:=h.trans (o.below (Yh hn h.size) fun _ hf=>hf.elim)
theorem Par.below {n0:Nat} {w w':World} (h:Par w) (hb:Below n0 w w') (hn:0<n0):Par w':=by
 obtain⟨t,fr,hh⟩:=h;exact⟨t,fr,(hb.block _ hn).trans hh⟩
structure Heads (v:Value) (n0:Nat) (h:Int→Hd) (w:World):Prop where
 ok:Zll h
 par: ∀w',Below n0 w w'→Par w'
 head: ∀(w':World) (a:Int),Below n0 w w'→a≤9223372036854775807→
  Calls Tryz.prog 100 #[v,.int .i64 a] w' fun e w''=>e=.returned (.tuple #[.agg #[.int .i64 (h a).k,.int .i64 (h a).f,.int .i64 (h a).r,.bool (h a).m,.int .i64 (h a).c],.int .i64 (h a).e])∧Only nob w' w''
theorem Heads.later {v:Value} {n0 n1:Nat} {h:Int→Hd} {w w':World} (H:Heads v n0 h w) (hb:Below n0 w w') (hn:n0≤n1):Heads v n1 h w':=
 ⟨H.ok,fun _ h2=>H.par _ (hb.trans (h2.mono hn)),fun w2 a h2 ha=>H.head w2 a (hb.trans (h2.mono hn)) ha⟩
def hAr (l:List Nat) (a:Int):Hd:=⟨ohE l a,ohK l a,ohF l a,ohR l a,ohM l a,ohC l a⟩
theorem Zez (l:List Nat):Zll (hAr l):=fun _ ha=>(Zcg ha).2.2.2.2.2.2
theorem Zlg {b g n0:Nat} {l:List Nat} {w:World} (h:Ar w b g l) (hb:b<n0) (hg:g<n0) (hp:Par w) (ht:0<n0):Heads (.pointer (some ⟨b,0,none⟩)) n0 (hAr l) w:=
 ⟨Zez l,fun _ h2=>hp.below h2 ht,fun w2 a h2 ha=>Zdi b g l a w2 (h.keep (Below.onlyF h2) (Nat.not_le_of_lt hb) (Nat.not_le_of_lt hg)) (hp.below h2 ht) ha⟩
def itv (y:It):Value:=.agg #[.int .i64 y.at_,.int .i64 y.k,.int .i64 y.f,.int .i64 y.r,.bool y.m,.int .i64 y.c]
theorem ZhV (w:World) (a k f r:Int) (m:Bool) (c:Int): ∃W,w.alloc (.cells #[.int .i64 a,.int .i64 k,.int .i64 f,.int .i64 r,.bool m,.int .i64 c] 234)=W∧
 Hid (Only nob w W∧Blk W w.heap.size 234 #[.int .i64 a,.int .i64 k,.int .i64 f,.int .i64 r,.bool m,.int .i64 c]):=⟨_,rfl,ZZ ⟨(Only.refl nob w).alloc _,Blk.new _ _ _⟩⟩
theorem Zii (v:Value) (n0:Nat) (h:Int→Hd) (w0:World) (H:Heads v n0 h w0) (hn0:n0≤w0.heap.size) (a top:Int) (w:World) (hb:Below n0 w0 w) (ha:0≤a) (hat:a<top) (ht:top≤1099511627776):
 Calls Tryz.prog 187 #[v,.int .i64 a,.int .i64 top] w fun e w'=>e=.returned (.tuple #[itv (Zey h top a),.int .i64 (Zey h top a).e])∧Only nob w w':=by
 obtain⟨W,hW0,HB⟩:=ZhV w 0 0 0 0 false 0;have HWE:=ZZ hW0;have hb1:=Below.trans_only hb HB.out.1 hn0;have HP:=ZZ (H.par _ hb1);have HH:=ZZ (H.head W a hb1 (by omega));have HOK:=ZZ (H.ok a);rcases hh:h a with⟨he,k,f,r,m,c⟩;have HI:=ZZ (show(swE h top a=if he=0 then(if 1+f+r≤top - a then 0 else 2) else he) from by unfold swE osz;rw[hh]);have HT:=ZZ (@ZkX h top a);have HF:=ZZ (@ZnR h top a);rw[hh] at HH HOK HT;clear hh hb hb1 H hW0 hn0;by_cases h0:he=0
 · subst h0
   have hm:hmay k f r c=true:=HOK.out rfl;have hbd:=ZF.1 hm
   obtain⟨s,hs⟩: ∃s:Int,s=1+f+r:=⟨_,rfl⟩
   have HS:=ZZ ((ZeT hm).trans hs.symm)
   have hs2:1≤s∧s≤8193:=by omega
   have HI2:=ZZ (show swE h top a=if s≤top - a then 0 else 2 by rw[HI.out,if_pos rfl,hs]);clear hm hbd hs HOK HI;by_cases hf:top - a<s
   · have hsw:swE h top a=2:=by rw[HI2.out,if_neg (by omega)]
     have HIT:=ZZ (show Zey h top a=⟨a,0,0,0,false,0,2⟩ by rw[HF.out (by rw[hsw];decide),hsw]);rw[HIT.out];clear HI2 HT HF hsw
     go_enter Tryz.func187,Tryz.ntmps187
     go_wp2_with fail
     rw[HWE.out];go_at_call 100;refine HH.out.mono ?_;rintro e w2 ⟨rfl,o⟩;obtain⟨W3,hW3,HB3⟩:=ZU w2 k f r m c;have HW3:=ZZ hW3;have O3:=ZZ (HB.out.1.trans (o.trans HB3.out.1));have B3:=ZZ (HB.out.2.keep (o.trans HB3.out.1) id);have HP3:=ZZ (HP.out.old (o.trans HB3.out.1));clear hW3 o
     go_upto_region 4 with fail
     rw[HW3.out];obtain⟨c0,c1,c2,c3,c4⟩:=Zz HB3.out.2
     go_wp2_with fail
     go_at_call 135;refine(ZaW _ _ _ _ _ _ HP3.out).mono ?_;rw[HS.out];rintro e w4 ⟨rfl,o⟩;have O4:=ZZ (O3.out.trans o);have B4:=ZZ (B3.out.keep o id);clear o c0 c1 c2 c3 c4;obtain⟨s0,s1,s2,s3,s4,s5⟩:=Zaq B4.out;obtain⟨r0,r1,r2,r3,r4,r5⟩:=ZeG B4.out;go_wp2;clear s0 s1 s2 s3 s4 s5 r0 r1 r2 r3 r4 r5;obtain⟨W6,hW6,O6,B6⟩:=Zga O4.out (Yi _) B4.out (.int .i64 a) (.int .i64 0) (.int .i64 0) (.int .i64 0) (.bool false) (.int .i64 0)
     with_reducible rw[hW6]
     obtain⟨h0,h1,h2,h3,h4,h5⟩:=Zaq B6;exact bodyPost_ret (v:=.tuple #[itv ⟨a,0,0,0,false,0,2⟩,.int .i64 2]) (by simp[results,Tryz.results187,go_sem,itv,h0,h1,h2,h3,h4,h5]) rfl ⟨rfl,O6⟩
   · have hsw:swE h top a=0:=by rw[HI2.out,if_pos (by omega)]
     have HIT:=ZZ (show Zey h top a=⟨a,k,f,r,m,c,0⟩ from HT.out hsw);rw[HIT.out];clear HI2 HT HF hsw
     go_enter Tryz.func187,Tryz.ntmps187
     go_wp2_with fail
     rw[HWE.out];go_at_call 100;refine HH.out.mono ?_;rintro e w2 ⟨rfl,o⟩;obtain⟨W3,hW3,HB3⟩:=ZU w2 k f r m c;have HW3:=ZZ hW3;have O3:=ZZ (HB.out.1.trans (o.trans HB3.out.1));have B3:=ZZ (HB.out.2.keep (o.trans HB3.out.1) id);have HP3:=ZZ (HP.out.old (o.trans HB3.out.1));clear hW3 o
     go_upto_region 4 with fail
     rw[HW3.out];obtain⟨c0,c1,c2,c3,c4⟩:=Zz HB3.out.2
     go_wp2_with fail
     go_at_call 135;refine(ZaW _ _ _ _ _ _ HP3.out).mono ?_;rw[HS.out];rintro e w4 ⟨rfl,o⟩;have O4:=ZZ (O3.out.trans o);have B4:=ZZ (B3.out.keep o id);have C4:=ZZ (HB3.out.2.keep o id);clear o c0 c1 c2 c3 c4;obtain⟨c0,c1,c2,c3,c4⟩:=Zz C4.out;obtain⟨s0,s1,s2,s3,s4,s5⟩:=Zaq B4.out;obtain⟨r0,r1,r2,r3,r4,r5⟩:=ZeG B4.out;go_wp2;clear s0 s1 s2 s3 s4 s5 r0 r1 r2 r3 r4 r5;obtain⟨W6,hW6,O6,B6⟩:=Zga O4.out (Yi _) B4.out (.int .i64 a) (.int .i64 k) (.int .i64 f) (.int .i64 r) (.bool m) (.int .i64 c)
     with_reducible rw[hW6]
     obtain⟨h0,h1,h2,h3,h4,h5⟩:=Zaq B6;exact bodyPost_ret (v:=.tuple #[itv ⟨a,k,f,r,m,c,0⟩,.int .i64 0]) (by simp[results,Tryz.results187,go_sem,itv,h0,h1,h2,h3,h4,h5]) rfl ⟨rfl,O6⟩
 · have hsw:swE h top a=he:=by rw[HI.out,if_neg h0]
   have HIT:=ZZ (show Zey h top a=⟨a,0,0,0,false,0,he⟩ by rw[HF.out (by rw[hsw];exact h0),hsw])
   have h0':(he==0)=false:=by simpa using h0
   rw[HIT.out];clear HI HT HF hsw h0 HOK
   go_enter Tryz.func187,Tryz.ntmps187
   go_wp2_with fail
   rw[HWE.out];go_at_call 100;refine HH.out.mono ?_;rintro e w2 ⟨rfl,o⟩;obtain⟨W3,hW3,HB3⟩:=ZU w2 k f r m c;have HW3:=ZZ hW3;have O3:=ZZ (HB.out.1.trans (o.trans HB3.out.1));have B3:=ZZ (HB.out.2.keep (o.trans HB3.out.1) id);clear hW3 o
   go_upto_region 3 with fail
   rw[HW3.out];obtain⟨s0,s1,s2,s3,s4,s5⟩:=Zaq B3.out;obtain⟨r0,r1,r2,r3,r4,r5⟩:=ZeG B3.out;go_wp2;clear s0 s1 s2 s3 s4 s5 r0 r1 r2 r3 r4 r5;obtain⟨W6,hW6,O6,B6⟩:=Zga O3.out (Yi _) B3.out (.int .i64 a) (.int .i64 0) (.int .i64 0) (.int .i64 0) (.bool false) (.int .i64 0)
   with_reducible rw[hW6]
   obtain⟨h0,h1,h2,h3,h4,h5⟩:=Zaq B6;exact bodyPost_ret (v:=.tuple #[itv ⟨a,0,0,0,false,0,he⟩,.int .i64 he]) (by simp[results,Tryz.results187,go_sem,itv,h0,h1,h2,h3,h4,h5]) rfl ⟨rfl,O6⟩
theorem ZeL (x:Sp) (hx:Fit x) (top:Int) (w:World):
 Calls Tryz.prog 186 #[.agg #[.int .i64 x.1,.int .i64 x.2],.int .i64 top] w fun e w'=>e=.returned (.bool (decide (may9 x top)))∧Only nob w w':=by
 obtain⟨w1,hw1,HB⟩: ∃w1,w.alloc (.cells #[.int .i64 x.1,.int .i64 x.2] 61)=w1∧Hid (Only nob w w1∧Blk w1 w.heap.size 61 #[.int .i64 x.1,.int .i64 x.2]):=⟨_,rfl,ZZ ⟨(Only.refl nob w).alloc _,Blk.new _ _ _⟩⟩
 have HW1:=ZZ hw1;have HX:=ZZ hx;have c0:=HB.out.2.cell 0;have c1:=HB.out.2.cell 1;simp at c0 c1;clear hw1 hx;by_cases h1:x.ok
 · have hxo:=h1
   unfold Sp.ok Za6 at hxo;have HD:=ZZ (show decide x.ok=true from Yl h1);by_cases h2:x.1≤top
   · by_cases h3:top≤x.1+x.2
     · have HM:=ZZ (show decide (may9 x top)=true from Yl ⟨h1,h2,h3⟩)
       rw[HM.out];clear h1
       go_enter Tryz.func186,Tryz.ntmps186
       go_wp2_with fail
       rw[HW1.out];go_at_call 87;refine(ZbX x HX.out _).mono ?_;rw[HD.out];rintro e w2 ⟨rfl,o⟩;have O2:=ZZ (HB.out.1.trans o.only);have c0':=o.only.keeps c0;have c1':=o.only.keeps c1;clear o c0 c1;go_wp2;go_ret;exact⟨rfl,O2.out⟩
     · have HM:=ZZ (show decide (may9 x top)=false from Yk fun h=>h3 h.2.2)
       rw[HM.out];clear h1
       go_enter Tryz.func186,Tryz.ntmps186
       go_wp2_with fail
       rw[HW1.out];go_at_call 87;refine(ZbX x HX.out _).mono ?_;rw[HD.out];rintro e w2 ⟨rfl,o⟩;have O2:=ZZ (HB.out.1.trans o.only);have c0':=o.only.keeps c0;have c1':=o.only.keeps c1;clear o c0 c1;go_wp2;go_ret;exact⟨Za (Yk (by omega)),O2.out⟩
   · have HM:=ZZ (show decide (may9 x top)=false from Yk fun h=>h2 h.2.1)
     rw[HM.out];clear h1
     go_enter Tryz.func186,Tryz.ntmps186
     go_wp2_with fail
     rw[HW1.out];go_at_call 87;refine(ZbX x HX.out _).mono ?_;rw[HD.out];rintro e w2 ⟨rfl,o⟩;have O2:=ZZ (HB.out.1.trans o.only);have c0':=o.only.keeps c0;have c1':=o.only.keeps c1;clear o c0 c1;go_wp2;go_ret;exact⟨rfl,O2.out⟩
 · have HD:=ZZ (show decide x.ok=false from Yk h1)
   have HM:=ZZ (show decide (may9 x top)=false from Yk fun h=>h1 h.1);rw[HM.out];clear h1
   go_enter Tryz.func186,Tryz.ntmps186
   go_wp2_with fail
   rw[HW1.out];go_at_call 87;refine(ZbX x HX.out _).mono ?_;rw[HD.out];rintro e w2 ⟨rfl,o⟩;have O2:=ZZ (HB.out.1.trans o.only);clear o c0 c1;go_wp2;go_ret;exact⟨rfl,O2.out⟩
end
section
open Go.RowKit Go.Shelf Go.Sort
attribute [local go_sem] Oper.semAt_some
def Zi3 (b:Nat) (W:World):Prop:= ∀u k,W.cell? ⟨b,0,none⟩=some u→u.ownBlock=some k→k<W.heap.size
theorem Zi3.only {b:Nat} {W W':World} (h:Zi3 b W) (o:Only nob W W') (hb:b<W.heap.size):Zi3 b W':=fun u k h1 h2=>
 Yv (h u k (by rw[← h1];exact(World.cell?_of_block (a:=⟨b,0,none⟩) (o.block b hb id)).symm) h2) o.size
theorem Zi3.new {b:Nat} {W:World} (h:Zi3 b W) (hb:b<W.heap.size) (o:Obj): ¬mine b (W.alloc o) W.heap.size:=by
 rintro⟨_,u,h1,h2⟩
 have:=h u _ (by rw[← h1];exact(World.cell?_of_block (a:=⟨b,0,none⟩) (((Only.refl nob W).alloc o).block b hb id)).symm) h2
 omega
structure KeepsS (b N0 n0:Nat) (W W':World):Prop where
 k:KeepsB b N0 n0 W W'
 sane:Zi3 b W→Zi3 b W'
theorem KeepsS.trans {b N0 n0:Nat} {A B C:World} (h:KeepsS b N0 n0 A B) (g:KeepsS b N0 n0 B C):KeepsS b N0 n0 A C:=⟨h.k.trans g.k,fun s=>g.sane (h.sane s)⟩
theorem KeepsS.only {b N0 n0:Nat} {W W':World} (h:Only nob W W') (hb:b<W.heap.size) (hn:n0≤W.heap.size):KeepsS b N0 n0 W W':=⟨KeepsB.only h hb hn,fun s=>s.only h hb⟩
theorem KeepsS.putObj {b N0 n0:Nat} (W:World) (l:Nat) (o o':Obj) (hb:b<l) (hn:n0≤l) (hl:W.heap[l]? =some o) (ho:o.isCells=false):KeepsS b N0 n0 W (W.putObj l o'):=by
 refine⟨KeepsB.putObj W l o o' hb hn hl ho,fun s u k h1 h2=>?_⟩;have hlt:l<W.heap.size:=(Yu.1 hl).1
 have hs:(W.putObj l o').heap.size=W.heap.size:=by simp[World.putObj]
 rw[hs];refine s u k ?_ h2;rw[← h1];exact(World.cell?_of_block (a:=⟨b,0,none⟩) ((grownBy_putObj' W l o').block b (by omega) (fun e=>by have:=Yo e;omega))).symm
structure Three (N0 b bs bt ba:Nat) (x:Sp) (top:Int) (v:Value) (W:World):Prop where
 s:Blk W bs 61 #[.int .i64 x.1,.int .i64 x.2]
 t:Blk W bt 3 #[.int .i64 top]
 a:Blk W ba 121 #[v]
 ns:N0≤bs∧ ¬mine b W bs
 nt:N0≤bt∧ ¬mine b W bt
 na:N0≤ba∧ ¬mine b W ba
theorem Three.only {N0 b bs bt ba:Nat} {x:Sp} {top:Int} {v:Value} {W W':World} (h:Three N0 b bs bt ba x top v W) (o:Only nob W W') (hb:b<W.heap.size):Three N0 b bs bt ba x top v W':=
 ⟨h.s.keep o id,h.t.keep o id,h.a.keep o id,⟨h.ns.1,fun m=>h.ns.2 (Zbv o hb h.s.lt m)⟩,⟨h.nt.1,fun m=>h.nt.2 (Zbv o hb h.t.lt m)⟩,⟨h.na.1,fun m=>h.na.2 (Zbv o hb h.a.lt m)⟩⟩
theorem Three.keeps {N0 b n0 bs bt ba:Nat} {x:Sp} {top:Int} {v:Value} {W W':World} (h:Three N0 b bs bt ba x top v W) (k:KeepsB b N0 n0 W W'):Three N0 b bs bt ba x top v W':=by
 obtain⟨s1,s2⟩:=k.blk h.s h.ns.1 h.ns.2;obtain⟨t1,t2⟩:=k.blk h.t h.nt.1 h.nt.2;obtain⟨a1,a2⟩:=k.blk h.a h.na.1 h.na.2;exact⟨s1,t1,a1,⟨h.ns.1,s2⟩,⟨h.nt.1,t2⟩,⟨h.na.1,a2⟩⟩
def ZmQ (y:It):Array Value:=#[itv y,.int .i64 y.e]
def ivl:Value→Int
 |.int _ z=>z
 |_=>0
theorem Zkx (lp b n₀ N0 bs bt ba:Nat) (v:Value) (h:Int→Hd) (x:Sp) (top:Int) (J Jx:List It→World→Prop) (W:World)
 (H:Heads v n₀ h W) (hn:n₀≤N0) (hN0:N0≤W.heap.size) (hb:b<N0) (hx:Fit x) (h3:Three N0 b bs bt ba x top v W) (hsane:Zi3 b W)
 (hJ:AbidesFrom W.heap.size J)
 (hY: ∀pre y W1,J pre W1→pre.length<(Zad h x top).length→YieldAt Fence.wide 1 Tryz.prog lp (ZmQ y) W1 fun e W'=>
   (e=.returned (.bool true)∧J (pre++[y]) W'∧KeepsS b N0 n₀ W1 W')∨(e=.returned (.bool false)∧Jx (pre++[y]) W'))
 (h0:J [] W):
 CallsIn Fence.wide 2 Tryz.prog 185 #[.func (.yield lp) #[] #[],.pointer (some ⟨bs,0,none⟩),.pointer (some ⟨bt,0,none⟩),.pointer (some ⟨ba,0,none⟩)] W fun e W'=>(∃v,e=.returned v)∧
  ((∃xs,xs=Zad h x top∧J xs W')∨(∃pre,pre<+:Zad h x top∧Jx pre W')):=by
 have HH:=ZZ H;have HX:=ZZ hx;have H3:=ZZ h3;have HSA:=ZZ hsane;have HJ:=ZZ hJ;have HY:=ZZ hY;have H0:=ZZ h0;have s0:=h3.s.cell 0;have s1:=h3.s.cell 1;have t0:=h3.t.cell 0;simp at s0 s1 t0;clear H hx h3 hsane hJ hY h0;refine callsIn_of_wp Tryz.func185 rfl trivial ?_ rfl;simp only[Tryz.ntmps185,List.size_toArray,List.length_cons,List.length_nil,Nat.reduceAdd,Nat.reduceSub,Array.replicate_succ,Array.replicate_zero,List.push_toArray,List.append_toArray,List.nil_append,List.cons_append];by_cases hm:may9 x top
 · have HM:=ZZ (show decide (may9 x top)=true from Yl hm)
   have HWL:=ZZ (show Zad h x top=tr h top x.1 from if_pos hm);obtain⟨hm1,hm2,hm3⟩:=hm;unfold Sp.ok Za6 at hm1
   gi_wp2_with fail
   refine⟨trivial,?_⟩
   gi_at_call 186
   refine(callsIn_wide.2 (ZeL x HX.out top W)).mono ?_;rw[HM.out];rintro e W1 ⟨rfl,o1⟩;have O1:=ZZ o1;have T1:=ZZ (H3.out.only o1 (by omega));have u0:=T1.out.s.cell 0;simp at u0;have HJ1:=ZZ (HJ.out [] W W1 none H0.out (ZT o1) (fun _ h=>by cases h));have SA1:=ZZ (HSA.out.only o1 (by omega));clear s0 s1 t0 o1
   gi_wp2
   gi_loopw [5] (fun s wr=> ∃(a:Int) (pre:List It),s=.int .i64 a∧x.1≤a∧a≤top∧Hid (pre++tr h top a=tr h top x.1)∧Hid (Three N0 b bs bt ba x top v wr)∧Hid (Below n₀ W wr)∧Hid (Zi3 b wr)∧Hid (J pre wr)) (fun s _=>(top - ivl s).toNat)
   case atStart=>exact⟨x.1,[],rfl,Int.le_refl _,hm2,rfl,T1,O1.out.below (by omega) (fun _ hf=>hf.elim),SA1,HJ1⟩
   case round=>
    clear T1 u0 HJ1 SA1;obtain⟨a,pre,rfl,ha1,ha2,HP,T2,HB,SA,HJ2⟩:=hrel;have t0:=T2.out.t.cell 0;have a0:=T2.out.a.cell 0;simp at t0 a0
    have hbr:b<wr.heap.size:=by have:=HB.out.size;omega
    by_cases hat:a<top
    · have HST:=ZZ (Zii v n₀ h W HH.out (by omega) a top wr HB.out (by omega) hat (by omega))
      rcases hy:Zey h top a with⟨p,k,f,r,m,c,q⟩
      obtain rfl:a=p:=by have:=@Za8 h top a;rw[hy] at this;exact this.symm
      have hq:q=swE h top a:=by have:=@Zhe h top a;rw[hy] at this;exact this
      rw[hy] at HST;have HIY:=ZZ hy;have HQ:=ZZ hq;clear hy hq;have HST2:=ZZ (show Calls Tryz.prog 187 #[v,.int .i64 a,.int .i64 top] wr fun e w'=>e=.returned (.tuple #[.agg #[.int .i64 a,.int .i64 k,.int .i64 f,.int .i64 r,.bool m,.int .i64 c],.int .i64 q])∧Only nob wr w' from HST.out);clear HST
      gi_wp2_with fail
      refine⟨trivial,?_⟩
      gi_at_call 187
      refine(callsIn_wide.2 HST2.out).mono ?_;rintro e W2 ⟨rfl,o2⟩;obtain⟨W4,hW4,HB4⟩:=ZhV W2 a k f r m c;have HW4:=ZZ hW4;have O4:=ZZ (o2.trans HB4.out.1);have T4:=ZZ (T2.out.only O4.out hbr);have SA4:=ZZ (SA.out.only O4.out hbr);have NM4:=ZZ (show ¬mine b W4 W2.heap.size from hW4▸(SA.out.only o2 hbr).new (Yv hbr o2.size) _)
      have hN2:N0≤W2.heap.size:=by have:=HB.out.size;have:=o2.size;omega
      have hJ4:J pre W4:=HJ.out pre wr W4 none HJ2.out (ZT O4.out) (fun _ h=>by cases h)
      have hle:pre.length<(Zad h x top).length:=by
       rw[HWL.out, ← HP.out,Yr];by_cases hs:swE h top a=0
       · rw[ZjA HH.out.ok hat hs];simp
       · rw[ZhW hat hs];simp
      obtain⟨fn,tmps,assign,body,hy,hR⟩:=HY.out pre ⟨a,k,f,r,m,c,q⟩ W4 hJ4 hle;dsimp only[ZmQ,itv] at hy;obtain⟨c0,c1,c2,c3,c4,c5⟩:=Zaq HB4.out.2;clear hJ4 hle o2 hW4 t0 a0;by_cases hs:q=0
      · have hs':(q==0)=true:=by simpa using hs
        have HS0:=ZZ (show swE h top a=0 by rw[← HQ.out];exact hs)
        have HPO:=ZZ (show(pre++[⟨a,k,f,r,m,c,q⟩])++tr h top (a+osz h a)=tr h top x.1 by
         rw[← HP.out,ZjA HH.out.ok hat HS0.out,HIY.out,List.append_assoc];rfl)
        have hz:=ZbZ HS0.out;have hzo:=ZcH HH.out.ok hz.1;have hit:=(ZkX HS0.out).symm.trans HIY.out;simp only[It.mk.injEq] at hit;obtain⟨-,hk1,hf1,hr1,hm1',hc1, -⟩:=hit;have HSZ:=ZZ (show hSz k f r c=osz h a by rw[ZeT (by rw[← hk1, ← hf1, ← hr1, ← hc1];exact HH.out.ok a hz.1), ← hf1, ← hr1];rfl)
        obtain⟨z,hzz⟩: ∃z:Int,z=osz h a:=⟨_,rfl⟩
        rw[← hzz] at HSZ HPO hz hzo;obtain⟨-,hz2⟩:=hz;clear hk1 hf1 hr1 hm1' hc1 hs hzz
        gi_wp2_with (with_reducible rw[HW4.out])
        refine hR.mono ?_;rintro e W5 (⟨rfl,hJ5,hk5⟩|⟨rfl,hJx5⟩)
        · have HJ5:=ZZ hJ5
          have T5:=ZZ (T4.out.keeps hk5.k);have HB5:=ZZ (show Below n₀ W W5 from(Below.trans_only HB.out O4.out (by omega)).trans hk5.k.below);have SA5:=ZZ (hk5.sane SA4.out);obtain⟨B5, -⟩:=hk5.k.blk HB4.out.2 hN2 NM4.out;clear c0 c1 c2 c3 c4 c5;obtain⟨c0,c1,c2,c3,c4,c5⟩:=Zaq B5;clear hJ5 hk5 hy hR B5
          gi_wp2_with fail
          refine⟨trivial,?_⟩
          gi_at_call 135
          refine(callsIn_wide.2 (ZaW k f r m c W5 (HH.out.par _ HB5.out))).mono ?_;rw[HSZ.out];rintro e W6 ⟨rfl,o6⟩
          have hb5:b<W5.heap.size:=by have:=HB5.out.size;omega
          have T6:=ZZ (T5.out.only o6 hb5);have HB6:=ZZ (Below.trans_only HB5.out o6 (by omega));have SA6:=ZZ (SA5.out.only o6 hb5);have HJ6:=ZZ (HJ.out _ W5 W6 none HJ5.out (ZT o6) (fun _ h=>by cases h));clear o6 c0 c1 c2 c3 c4 c5
          gi_wp2
          go_roundw
          case rel=>exact⟨a+z,_,rfl,by omega,by omega,HPO,T6,HB6,SA6,HJ6⟩
          case measure=>simp[ivl];omega
        · have HJx:=ZZ hJx5
          clear hJx5 hy hR
          gi_wp2
          refine bodyPost_ret (results_none rfl _ _ _) rfl ?_;exact⟨⟨_,rfl⟩,.inr ⟨_,⟨_,HPO.out.trans HWL.out.symm⟩,HJx.out⟩⟩
      · have hs':(q==0)=false:=by simpa using hs
        have HPO:=ZZ (show pre++[⟨a,k,f,r,m,c,q⟩]=Zad h x top by
         rw[HWL.out, ← HP.out,ZhW hat (by rw[← HQ.out];exact hs),HIY.out])
        clear hs
        gi_wp2_with (with_reducible rw[HW4.out])
        refine hR.mono ?_;rintro e W5 (⟨rfl,hJ5,hk5⟩|⟨rfl,hJx5⟩)
        · have HJ5:=ZZ hJ5
          clear hJ5 hk5 hy hR c0 c1 c2 c3 c4 c5
          gi_wp2
          refine bodyPost_ret (results_none rfl _ _ _) rfl ?_;exact⟨⟨_,rfl⟩,.inl ⟨_,HPO.out,HJ5.out⟩⟩
        · have HJx:=ZZ hJx5
          clear hJx5 hy hR c0 c1 c2 c3 c4 c5
          gi_wp2
          refine bodyPost_ret (results_none rfl _ _ _) rfl ?_;exact⟨⟨_,rfl⟩,.inr ⟨_,⟨[],by rw[List.append_nil];exact HPO.out⟩,HJx.out⟩⟩
    · have HE:=ZZ (show pre=Zad h x top by have:=HP.out;rw[Zh1 hat,List.append_nil] at this;rw[HWL.out];exact this)
      gi_wp2
      go_end0
      exact⟨⟨_,rfl⟩,.inl (HE.out▸HJ2.out)⟩
 · have HM:=ZZ (show decide (may9 x top)=false from Yk hm)
   have HWL:=ZZ (show Zad h x top=[Zmo] from if_neg hm);clear hm
   gi_wp2_with fail
   refine⟨trivial,?_⟩
   gi_at_call 186
   refine(callsIn_wide.2 (ZeL x HX.out top W)).mono ?_;rw[HM.out];rintro e W1 ⟨rfl,o1⟩;have hJ1:=HJ.out [] W W1 none H0.out (ZT o1) (fun _ h=>by cases h);obtain⟨fn,tmps,assign,body,hy,hR⟩:=HY.out [] Zmo W1 hJ1 (by rw[HWL.out];exact Nat.zero_lt_one);dsimp only[ZmQ,itv,Zmo] at hy;clear s0 s1 t0 o1 hJ1
   gi_wp2
   refine hR.mono ?_;rintro e W5 (⟨rfl,hJ5,hk5⟩|⟨rfl,hJx5⟩)
   · have HJ5:=ZZ hJ5
     clear hJ5 hk5 hy hR
     gi_wp2
     refine bodyPost_ret (results_none rfl _ _ _) rfl ?_;exact⟨⟨_,rfl⟩,.inl ⟨_,HWL.out.symm,HJ5.out⟩⟩
   · have HJx:=ZZ hJx5
     clear hJx5 hy hR
     gi_wp2
     refine bodyPost_ret (results_none rfl _ _ _) rfl ?_;exact⟨⟨_,rfl⟩,.inr ⟨_,⟨[],by rw[HWL.out];rfl⟩,HJx.out⟩⟩
theorem ZnB (b n₀ N0 bs bt ba:Nat) (v:Value) (h:Int→Hd) (x:Sp) (top:Int) (w:World) (H:Heads v n₀ h w) (hn:n₀≤N0) (hN0:N0≤w.heap.size) (hb:b<N0) (hx:Fit x) (h3:Three N0 b bs bt ba x top v w) (hsane:Zi3 b w):
 SeqStopsK Fence.wide 2 Tryz.prog 185 #[.pointer (some ⟨bs,0,none⟩),.pointer (some ⟨bt,0,none⟩),.pointer (some ⟨ba,0,none⟩)] ZmQ (KeepsS b N0 n₀) (fun xs=>xs=Zad h x top) (fun pre=>pre<+:Zad h x top) (Zad h x top).length w:=by
 intro lp J Jx W hW hJ hJx hY h0;have ho:Only nob w W:=Below.only hW
 have hbw:b<w.heap.size:=by omega
 exact Zkx lp b n₀ N0 bs bt ba v h x top J Jx W (H.later (hW.mono (by omega)) (Yi _)) hn (Yh hN0 hW.size) hb hx (h3.only ho hbw) (hsane.only ho hbw) hJ hY h0
attribute [local go_sem] Oper.semAt_some
theorem ZlP (n:Nat) (A:Option Addr) (x:Sp) (top:Int) (w:World):CallsIn Fence.wide n Tryz.prog 168 #[.pointer A,.agg #[.int .i64 x.1,.int .i64 x.2],.int .i64 top] w fun e w'=>
 e=.returned (.func (.func 185) #[] #[.pointer (some ⟨w.heap.size+1,0,none⟩),.pointer (some ⟨w.heap.size+1+1,0,none⟩),.pointer (some ⟨w.heap.size,0,none⟩)])∧
 w'=((w.alloc (.cells #[.pointer A] 121)).alloc (.cells #[.int .i64 x.1,.int .i64 x.2] 61)).alloc (.cells #[.int .i64 top] 3):=by
 refine callsIn_wide.2 ?_
 go_enter Tryz.func168,Tryz.ntmps168
 go_wp2_with fail
 go_ret;exact⟨rfl,rfl⟩
theorem Zik (b:Nat) (V:World) (A:Option Addr) (x:Sp) (top:Int) (hb:b<V.heap.size) (hs:Zi3 b V):
 ∃W,((V.alloc (.cells #[.pointer A] 121)).alloc (.cells #[.int .i64 x.1,.int .i64 x.2] 61)).alloc (.cells #[.int .i64 top] 3)=W∧Only nob V W∧W.heap.size=V.heap.size+3∧
  Three V.heap.size b (V.heap.size+1) (V.heap.size+1+1) V.heap.size x top (.pointer A) W∧Zi3 b W:=by
 have o:Only nob V (((V.alloc (.cells #[.pointer A] 121)).alloc (.cells #[.int .i64 x.1,.int .i64 x.2] 61)).alloc (.cells #[.int .i64 top] 3)):=(((Only.refl nob V).alloc _).alloc _).alloc _
 have no: ∀k,V.heap.size≤k→ ¬mine b (((V.alloc (.cells #[.pointer A] 121)).alloc (.cells #[.int .i64 x.1,.int .i64 x.2] 61)).alloc (.cells #[.int .i64 top] 3)) k:=by
  rintro k hk ⟨_,u,h1,h2⟩
  have:=hs u k (by rw[← h1];exact(World.cell?_of_block (a:=⟨b,0,none⟩) (o.block b hb id)).symm) h2
  omega
 refine⟨_,rfl,o,by simp,⟨(Blk.newAt _ _ _ _ (by simp)).alloc _,Blk.newAt _ _ _ _ (by simp),((Blk.new V _ _).alloc _).alloc _,⟨by omega,no _ (by omega)⟩,⟨by omega,no _ (by omega)⟩,⟨Yi _,no _ (Yi _)⟩⟩,hs.only o hb⟩
theorem Zbd {X Y:World} {g:Nat} {t:TypeId} {cs:Array Value} {row:Option Nat} (h:Blk X g t cs) (hg:X.grownBy Y row) (hr: ∀r,row=some r→ ∃o:Obj,X.heap[r]? =some o∧o.isCells=false):Blk Y g t cs:=
 (hg.block g h.lt (fun e=>by obtain⟨o,ho,hc⟩:=hr g e.symm;rw[show X.heap[g]? =_ from h] at ho;cases ho;cases hc)).trans h
theorem ZbI {X:World} {g D:Nat} {t:TypeId} {cs:Array Value} {o:Obj} (h:Blk X g t cs) (o':Obj) (hk:X.heap[D]? =some o) (hc:o.isCells=false):Blk (X.putObj D o') g t cs:=
 Zbd h (grownBy_putObj' X D o') fun r e=>by cases e;exact⟨o,hk,hc⟩
theorem ZeI {w W:World} {D:Nat} (h:Below w.heap.size w W) (hD:w.heap.size≤D) (hK:W.heap[D]? =some (.deferred (some []))):Only nob w (W.putObj D (.deferred none)):=
 Below.only (h.trans (belowK_b (w:=w) (Yi _) W D _ (.deferred none) hD hK rfl rfl))
attribute [local go_sem] Oper.semAt_some
theorem Zjh {W w1:World} {g n0:Nat} {t e:TypeId} {u v:Value} {size k:Nat} {xs:List Value} {tmp:Obj} (h:Blk W g t #[u]) (hte:t≠e) (hrow:W.ownsRow n0 e size v k xs) (hg:(W.alloc tmp).grownBy w1 v.ownBlock):Blk w1 g t #[u]:=
 (hg.block g (h.alloc tmp).lt (Boxed.not_row (show Boxed W g t u from h) hte hrow)).trans (h.alloc tmp)
theorem ZpB (A:Option Addr) (h:Int→Hd) (x:Sp) (top:Int) (w:World) (H:Heads (.pointer A) w.heap.size h w) (hx:Fit x) (hN:(Zad h x top).length≤1000000):
 Calls Tryz.prog 139 #[.pointer A,.agg #[.int .i64 x.1,.int .i64 x.2],.int .i64 top] w fun e w'=> ∃v',e=.returned (.tuple #[v',.int .i64 (wkE (Zad h x top))])∧
  w'.ownsRow w.heap.size 3 1 v' (wkL (Zad h x top)).length (i64s (wkL (Zad h x top)))∧Only nob w w':=by
 obtain⟨i0,hi0,hz0,hz1,hz2⟩:=info_parts Zcq;have HH:=ZZ H;have HX:=ZZ hx;clear H hx
 obtain⟨V,hV,HV⟩: ∃V,(((w.alloc (.cells #[.int .i64 x.1,.int .i64 x.2] 61)).alloc (.cells #[.slice none 0 0] 38)).alloc (.cells #[.int .i64 0] 35)).alloc (.cells #[.slice none 0 0] 38)=V∧Hid (Only nob w V∧V.heap.size=w.heap.size+4∧Blk V w.heap.size 61 #[.int .i64 x.1,.int .i64 x.2]∧Blk V (w.heap.size+1) 38 #[.slice none 0 0]∧Blk V (w.heap.size+1+1) 35 #[.int .i64 0]∧Blk V (w.heap.size+1+1+1) 38 #[.slice none 0 0]):=
  ⟨_,rfl,ZZ ⟨((((Only.refl nob w).alloc _).alloc _).alloc _).alloc _,by simp,(((Blk.new w _ _).alloc _).alloc _).alloc _,((Blk.newAt _ _ _ _ (by simp)).alloc _).alloc _,(Blk.newAt _ _ _ _ (by simp)).alloc _,Blk.newAt _ _ _ _ (by simp)⟩⟩
 have HVE:=ZZ hV;have v0:=HV.out.2.2.1.cell 0;have v1:=HV.out.2.2.1.cell 1;simp at v0 v1;clear hV;refine(callsIn_wide (n:=3)).1 ?_;refine callsIn_of_wp_marks Tryz.func139 rfl trivial ?_ rfl;simp only[Tryz.ntmps139,List.size_toArray,List.length_cons,List.length_nil,Nat.reduceAdd,Nat.reduceSub,Array.replicate_succ,Array.replicate_zero,List.push_toArray,List.append_toArray,List.nil_append,List.cons_append]
 gi_wp2_with (first|(with_reducible rw[HVE.out])|(refine⟨trivial,?_⟩;gi_at_call 168;refine(ZlP _ _ _ _ _).mono ?_;rintro e w' ⟨rfl,rfl⟩))
 have bR0:=HV.out.2.2.2.2.2.cell 0;simp at bR0;obtain⟨W0,hW0,o0,hsz,h3,hsa⟩:=Zik (w.heap.size+1+1+1) V A x top (by have:=HV.out.2.1;omega) (fun u k h1 h2=>by rw[bR0] at h1;cases h1;cases h2);rw[hW0];have hvs1:w.heap.size+4≤V.heap.size:=Nat.le_of_eq HV.out.2.1.symm;have hvs2:V.heap.size≤w.heap.size+4:=Nat.le_of_eq HV.out.2.1;have hsz1:V.heap.size+3≤W0.heap.size:=Nat.le_of_eq hsz.symm;have HD1:=ZZ (HH.out.later (HV.out.1.whole.trans (o0.whole.mono (by omega))) (Yi _));have hB0:Below w.heap.size w W0:=HV.out.1.whole.trans (o0.whole.mono (by omega));clear hW0 v0 v1 bR0 hsz
 refine wpIn_rangeFunc_ownH rfl (by decide) (gf:=185) (lb:=#[.pointer (some ⟨V.heap.size+1,0,none⟩),.pointer (some ⟨V.heap.size+1+1,0,none⟩),.pointer (some ⟨V.heap.size,0,none⟩)]) rfl trivial (enters_of Tryz.func185 (by kernel_rfl) rfl)
  (ZnB (w.heap.size+1+1+1) w.heap.size V.heap.size (V.heap.size+1) (V.heap.size+1+1) V.heap.size (.pointer A) h x top W0 HD1.out (by omega) (by omega) (by omega) HX.out h3 hsa) KeepsS.trans (fun W l o o' h1 h2 h3 _=>KeepsS.putObj W l o o' (by omega) (by omega) h2 h3) (Below.refl _ _) (fun _=>rfl)
  (fun pre W=>(∀y∈pre,y.e=0)∧(∃v,Boxed W (w.heap.size+1+1+1) 38 v∧W.ownsRow w.heap.size 3 1 v (ats pre).length (i64s (ats pre)))∧Blk W (w.heap.size+1) 38 #[.slice none 0 0]∧Blk W (w.heap.size+1+1) 35 #[.int .i64 0]∧Below w.heap.size w W∧W0.heap.size≤W.heap.size)
  (fun c pre W=>c=.ret∧ ∃pre0 y,pre=pre0++[y]∧(∀z∈pre0,z.e=0)∧y.e≠0∧Blk W (w.heap.size+1) 38 #[.slice none 0 0]∧Blk W (w.heap.size+1+1) 35 #[.int .i64 y.e]∧Below w.heap.size w W)
  ?hI ?hIx ⟨(fun _ h=>by cases h),⟨.slice none 0 0,HV.out.2.2.2.2.2.keep o0 id,World.ownsRow_nil _ _ _ _⟩,HV.out.2.2.2.1.keep o0 id,HV.out.2.2.2.2.1.keep o0 id,hB0,Yi _⟩
  (fun y a' W=> ∃Bx,V.heap.size+2<Bx∧Blk W Bx 234 #[.int .i64 y.at_,.int .i64 y.k,.int .i64 y.f,.int .i64 y.r,.bool y.m,.int .i64 y.c]∧a'={tmps:=#[.pointer A,.agg #[.int .i64 x.1,.int .i64 x.2],.int .i64 top,undef,.pointer (some ⟨w.heap.size,0,none⟩),undef,.pointer (some ⟨w.heap.size+1,0,none⟩),.pointer (some ⟨w.heap.size+1+1,0,none⟩),.pointer (some ⟨w.heap.size+1+1+1,0,none⟩),.pointer (some ⟨Bx,0,none⟩),.int .i64 y.e,.pointer A,.agg #[.int .i64 x.1,.int .i64 x.2],.int .i64 top,.func (.func 185) #[] #[.pointer (some ⟨V.heap.size+1,0,none⟩),.pointer (some ⟨V.heap.size+1+1,0,none⟩),.pointer (some ⟨V.heap.size,0,none⟩)],itv y,.int .i64 y.e,undef,undef,undef,undef,undef,undef,undef,undef,undef],defers:=[]})
  (fun y a' _ X Y row hs hg hr=>by
    obtain⟨Bx,h1,h2,h3⟩:=hs
    exact⟨Bx,h1,Zbd h2 hg fun r e=>(hr r e).2,h3⟩)
  ?assign ?body ?done ?stop
 case hI=>
  rintro pre W W' row ⟨hy,⟨v,hv,hrow⟩,b0,b1,hb,hz⟩ hg hr;have ho:Only (fun k=>row=some k) W W':=Zcv hg fun k e _=>e;refine⟨hy,⟨v,Zbd hv hg fun r e=>(hr r e).2,Zb hrow ho fun k hk e=>?_⟩,Zbd b0 hg fun r e=>(hr r e).2,Zbd b1 hg fun r e=>(hr r e).2,hb.grown hg hb.size (fun k e=>by have:=(hr k e).1;omega),Yh hz hg.size⟩;obtain⟨o,h1,h2⟩:=(hr k e).2
  rcases hrow.2 with⟨rfl,_⟩|⟨g,cap,cur,rfl,_,hgb,_⟩
  · cases hk
  · obtain rfl:g=k:=by simpa[Value.ownBlock] using hk
    rw[hgb] at h1;cases h1;cases h2
 case hIx=>
  rintro c pre W W' row ⟨rfl,pre0,y,hp,hy0,hy,b0,b1,hb⟩ hg hr;exact⟨rfl,pre0,y,hp,hy0,hy,Zbd b0 hg fun r e=>(hr r e).2,Zbd b1 hg fun r e=>(hr r e).2,hb.grown hg hb.size (fun k e=>by have:=(hr k e).1;omega)⟩
 case assign=>
  rintro lp pre y W K ⟨hy,⟨v,hv,hrow⟩,b0,b1,hb,hz⟩ hK;rcases y with⟨p,k,f,r,m,c,q⟩;dsimp only[ZmQ,itv]
  gi_wp2
  have ho:Only nob W (W.alloc (.cells #[.int .i64 p,.int .i64 k,.int .i64 f,.int .i64 r,.bool m,.int .i64 c] 234)):=(Only.refl nob W).alloc _;exact hK _ _ ((KeepsOthers.alloc _ _).from _) (KeepsS.only ho (by omega) hb.size) ⟨hy,⟨v,hv.alloc _,hrow.alloc _⟩,b0.keep ho id,b1.keep ho id,hb.alloc hb.size _,Yh hz (by simp)⟩ ⟨W.heap.size,by omega,Blk.new W 234 _,rfl⟩
 case body=>
  rintro lp pre y a' W hl ⟨r,hr⟩ ⟨hy,⟨v,hv,hrow⟩,b0,b1,hb,hz⟩ ⟨Bx,hBx,bX,rfl⟩ hlt;have x0:=bX.cell 0;have r0:=b0.cell 0;have r1:=b1.cell 0;have f0:=b0.free 0;have f1:=b1.free 0;have hc:=hv.cell;simp at x0 r0 r1;by_cases he:y.e=0
  · have he':(y.e==0)=true:=by simpa using he
    have HY:=ZZ (show ∀z∈pre++[y],z.e=0 from fun z hz=>by
     rcases Yq.1 hz with h|h
     · exact hy z h
     · rw[Ys.1 h];exact he)
    have HLE:=ZZ (Zjf pre);have B0:=ZZ b0;have B1:=ZZ b1;have hWB:w.heap.size≤W.heap.size:=hb.size;clear he hy r0 r1 f0 f1 b0 b1
    gi_wp2_with (gi_at_builtin;refine wpListIn_append_own_at _ rfl _ _ 38 rfl w.heap.size 3 i0 _ 1 8 Tryz.underlying38 hi0 hz0 hz1 hz2 rfl (by decide) _ _ _ rfl (hrow.alloc _) ⟨W.heap.size,0,none⟩ 1 1 (i64s [y.at_]) rfl rfl (Zjk _ _ _) (ZbM _) (by have:=ZiC;have:=HLE.out;omega) (by have:=HLE.out;omega) (by simp;omega) ?_;intro v' w1 hown' hgrow _ hvv;have HKB:=ZZ (Zd4 (N0:=V.heap.size) hv (by decide) hrow hWB (by omega) (by omega) hown' hgrow hvv);have HO1:=ZZ hown';have Q0:=ZZ (Zjh B0.out (by decide) hrow hgrow);have Q1:=ZZ (Zjh B1.out (by decide) hrow hgrow);obtain⟨g',cap',rfl⟩:=ownsRow_succ hown';clear hvv;obtain⟨hv1,hv2,hr2,hk2,hb2⟩:=hv.appended (by decide) hrow hWB (by omega) hown' hgrow;have hc1:=hv1.cell;have hf1:=hv1.frozen)
    have hsn:i64s (ats (pre++[y]))=i64s (ats pre)++i64s [y.at_]:=by rw[ZhX,ZaG]
    have hln:(ats (pre++[y])).length=(ats pre).length+1:=by rw[ZhX,Yr];rfl
    refine⟨hk2.from _,⟨HKB.out,fun _ u k h1 h2=>?_⟩,HY.out,⟨_,hv2,by rw[hsn,hln];exact hr2⟩,Q0.out.other (p:=⟨w.heap.size+1+1+1,0,none⟩) (by show w.heap.size+1+1+1≠w.heap.size+1;omega) _,Q1.out.other (p:=⟨w.heap.size+1+1+1,0,none⟩) (by show w.heap.size+1+1+1≠w.heap.size+1+1;omega) _,hb.trans hb2,Yh hz hb2.size⟩;rw[hv2.cell] at h1
    cases h1
    exact(Zr hr2 h2).2
  · have he':(y.e==0)=false:=by simpa using he
    have HE:=ZZ he;have HY:=ZZ hy;clear he hy
    gi_wp2
    refine⟨((KeepsOthers.setCell _ _ _).trans (KeepsOthers.setCell _ _ _)).from _,rfl,pre,y,rfl,HY.out,HE.out,?_,?_,?_⟩
    · exact(by simpa using b0.put 0 (.slice none 0 0):Blk (W.setCell ⟨w.heap.size+1,0,none⟩ (.slice none 0 0)) (w.heap.size+1) 38 #[.slice none 0 0]).other (p:=⟨w.heap.size+1+1,0,none⟩) (by show w.heap.size+1+1≠w.heap.size+1;omega) _
    · simpa using(b1.other (p:=⟨w.heap.size+1,0,none⟩) (by show w.heap.size+1≠w.heap.size+1+1;omega) (.slice none 0 0)).put 0 (.int .i64 y.e)
    · exact(hb.setCell (p:=⟨w.heap.size+1,0,none⟩) (by show w.heap.size≤w.heap.size+1;omega) _).setCell (p:=⟨w.heap.size+1+1,0,none⟩) (by show w.heap.size≤w.heap.size+1+1;omega) _
 case done=>
  rintro D ys W hD rfl ⟨hy,⟨v,hv,hrow⟩,b0,b1,hb,hz⟩ hK;have r0:=b0.cell 0;have r1:=b1.cell 0;have f0:=b0.free 0;have f1:=b1.free 0;have hc:=hv.cell;simp at r0 r1;obtain⟨-,k2,k3⟩:=Zlz hy top;have HK2:=ZZ k2;have HK3:=ZZ k3;have HKD:=ZZ hK;obtain⟨Av,cv,rfl, -⟩:=Zl hrow;clear hy k2 k3 hK
  gi_wp2
  have hK':=((KeepsOthers.setCell W ⟨w.heap.size+1,0,none⟩ (.slice Av (ats (Zad h x top)).length cv)).trans (KeepsOthers.setCell _ ⟨w.heap.size+1+1,0,none⟩ (.int .i64 0))).same D _ HKD.out rfl;refine⟨by simp,.inl ⟨_,_,rfl,run_takeDeferred hK',?_⟩⟩;have q0:=(ZbI (o':=.deferred none) ((by simpa using b0.put 0 (.slice Av (ats (Zad h x top)).length cv):Blk (W.setCell ⟨w.heap.size+1,0,none⟩ (.slice Av (ats (Zad h x top)).length cv)) (w.heap.size+1) 38 #[.slice Av (ats (Zad h x top)).length cv]).other (p:=⟨w.heap.size+1+1,0,none⟩) (by show w.heap.size+1+1≠w.heap.size+1;omega) (.int .i64 0)) hK' rfl).cell 0;have q1:=(ZbI (o':=.deferred none) ((b1.other (p:=⟨w.heap.size+1,0,none⟩) (by show w.heap.size+1≠w.heap.size+1+1;omega) (.slice Av (ats (Zad h x top)).length cv)).put 0 (.int .i64 0)) hK' rfl).cell 0;simp at q0 q1;have n0:=Boxed.not_row (show Boxed W (w.heap.size+1) 38 _ from b0) (by decide:38≠3) hrow;have n1:=Boxed.not_row (show Boxed W (w.heap.size+1+1) 35 _ from b1) (by decide:35≠3) hrow;have hr1:=Zb hrow (Zc W (w.heap.size+1) 0 (.slice Av (ats (Zad h x top)).length cv)) fun k hk e=>n0 (by unfold isb at e;rw[← e,hk]);have hr2:=Zb hr1 (Zc _ (w.heap.size+1+1) 0 (.int .i64 0)) fun k hk e=>n1 (by unfold isb at e;rw[← e,hk]);have ob:=ZeI ((hb.setCell (p:=⟨w.heap.size+1,0,none⟩) (by show w.heap.size≤w.heap.size+1;omega) (.slice Av (ats (Zad h x top)).length cv)).setCell (p:=⟨w.heap.size+1+1,0,none⟩) (by show w.heap.size≤w.heap.size+1+1;omega) (.int .i64 0)) (by omega) hK';refine⟨.tuple #[.slice Av (ats (Zad h x top)).length cv,.int .i64 0],?_,_,by rw[HK2.out],by rw[HK3.out];exact ownsRow_putObj hr2 _ hK' rfl,ob⟩;simp[results,Tryz.results139,go_sem,q0,q1]
 case stop=>
  rintro D c pre W hD ⟨rest,hrest⟩ ⟨rfl,pre0,y,rfl,hy0,hy,b0,b1,hb⟩ hK;obtain⟨-,k2,k3⟩:=Zpx (R:=rest) hy0 hy top;rw[List.append_assoc,List.singleton_append] at hrest;rw[hrest] at k2 k3;have HK2:=ZZ k2;have HK3:=ZZ k3;clear k2 k3 hrest
  gi_wp2
  refine⟨by simp,.inl ⟨_,_,rfl,run_takeDeferred hK,?_⟩⟩;have q0:=(ZbI (o':=.deferred none) b0 hK rfl).cell 0;have q1:=(ZbI (o':=.deferred none) b1 hK rfl).cell 0;simp at q0 q1;refine⟨.tuple #[.slice none 0 0,.int .i64 y.e],?_,_,by rw[HK2.out],by rw[HK3.out];exact World.ownsRow_nil _ _ _ _,ZeI hb (by omega) hK⟩;simp[results,Tryz.results139,go_sem,q0,q1]
attribute [local go_sem] Oper.semAt_some
end
section
open Go.RowKit
def ZaU (l:List Int) (z:Int):Bool:=l.any (· ==z)
end
end Go.Proofs.YtknoncenblehkaaGreatDoor
