/- The document's own pairing of two graphs, pair by pair: it b The document's own answer for layer 18: rows of -1; a graph The document's own answer for layer 18: two graphs matched. The laws of chapter 18: walked, over what package canon is a Package canon: Canon, as Breadth and Renumber. Alike, by two -/
import Derived.Test.YtknoncenblehkaaGreatDoorF33
set_option maxRecDepth 100000
set_option maxHeartbeats 32000000
set_option linter.unusedSimpArgs false
set_option linter.unusedVariables false
namespace Go.Proofs.YtknoncenblehkaaGreatDoor
section
open Go.RowKit Go.Lib
structure MSt where
 pa:List Int
 pb:List Int
 bad:Bool
def MSt.put (s:MSt) (i k:Int):MSt:={s with pa:=s.pa.set i.toNat k,pb:=s.pb.set k.toNat i}
def PT (s:MSt) (i k:Int):Prop:= ∃x y:Nat,i=x∧k=y∧s.pa[x]? =some (y:Int)
structure MInv (a b:Gr) (s:MSt):Prop where
 tl:s.pa.length=a.nd.length
 fl:s.pb.length=b.nd.length
 t: ∀(x:Nat) k,s.pa[x]? =some k→k= -1∨ ∃y:Nat,k=y∧s.pb[y]? =some (x:Int)
 f: ∀(y:Nat) i,s.pb[y]? =some i→i= -1∨ ∃x:Nat,i=x∧s.pa[x]? =some (y:Int)
section
variable {a b:Gr} {s:MSt}
theorem MInv.pb_of (h:MInv a b s) {x y:Nat} (e:s.pa[x]? =some (y:Int)):s.pb[y]? =some (x:Int):=by
 rcases h.t x y e with e1|⟨y',e1,e2⟩
 · omega
 · have:y'=y:=by omega
   subst this;exact e2
theorem MInv.inj (h:MInv a b s) {i i' k:Int} (h1:PT s i k) (h2:PT s i' k):i=i':=by
 obtain⟨x,y,rfl,rfl,e1⟩:=h1;obtain⟨x',y',rfl,e,e2⟩:=h2
 have:y=y':=by omega
 subst this;exact Yp ((h.pb_of e1).symm.trans (h.pb_of e2))
theorem MInv.put (h:MInv a b s) {x y:Nat} (hx:s.pa[x]? =some (-1)) (hy:s.pb[y]? =some (-1)):MInv a b (s.put x y)∧(∀i k,PT (s.put x y) i k↔PT s i k∨(i=x∧k=y)):=by
 have lx:=(Yk.1 hx).1;have ly:=(Yk.1 hy).1
 have gt: ∀j:Nat,(s.put x y).pa[j]? =if x=j then some (y:Int) else s.pa[j]? :=fun j=>by
  show(s.pa.set ((x:Int)).toNat (y:Int))[j]? =_;rw[show((x:Int)).toNat=x from rfl,List.getElem?_set];by_cases e:x=j
  · rw[if_pos e,if_pos e,if_pos lx]
  · rw[if_neg e,if_neg e]
 have gf: ∀j:Nat,(s.put x y).pb[j]? =if y=j then some (x:Int) else s.pb[j]? :=fun j=>by
  show(s.pb.set ((y:Int)).toNat (x:Int))[j]? =_;rw[show((y:Int)).toNat=y from rfl,List.getElem?_set];by_cases e:y=j
  · rw[if_pos e,if_pos e,if_pos ly]
  · rw[if_neg e,if_neg e]
 refine⟨⟨by show(s.pa.set _ _).length=_;rw[List.length_set];exact h.tl,by show(s.pb.set _ _).length=_;rw[List.length_set];exact h.fl,fun j k e=>?_,fun j i e=>?_⟩,fun i k=>?_⟩
 · rw[gt] at e
   by_cases e1:x=j
   · rw[if_pos e1] at e
     obtain rfl:=Yp e;exact .inr ⟨y,rfl,by rw[gf,if_pos rfl,e1]⟩
   · rw[if_neg e1] at e
     rcases h.t j k e with e2|⟨y',e2,e3⟩
     · exact .inl e2
     · refine .inr ⟨y',e2,?_⟩
       rw[gf,if_neg (fun e4=>?_)]
       · exact e3
       · subst e4
         rw[hy] at e3
         have:=Yp e3
         omega
 · rw[gf] at e
   by_cases e1:y=j
   · rw[if_pos e1] at e
     obtain rfl:=Yp e;exact .inr ⟨x,rfl,by rw[gt,if_pos rfl,e1]⟩
   · rw[if_neg e1] at e
     rcases h.f j i e with e2|⟨x',e2,e3⟩
     · exact .inl e2
     · refine .inr ⟨x',e2,?_⟩
       rw[gt,if_neg (fun e4=>?_)]
       · exact e3
       · subst e4
         rw[hx] at e3
         have:=Yp e3
         omega
 · constructor
   · rintro⟨x',y',rfl,rfl,e⟩
     rw[gt] at e;by_cases e1:x=x'
     · rw[if_pos e1] at e
       have:=Yp e
       exact .inr ⟨by omega,by omega⟩
     · rw[if_neg e1] at e
       exact .inl ⟨x',y',rfl,rfl,e⟩
   · rintro(⟨x',y',rfl,rfl,e⟩|⟨rfl,rfl⟩)
     · refine⟨x',y',rfl,rfl,?_⟩
       rw[gt,if_neg (fun e4=>?_)]
       · exact e
       · subst e4
         rw[hx] at e
         have:=Yp e
         omega
     · exact⟨x,y,rfl,rfl,by rw[gt,if_pos rfl]⟩
end
section
variable {a b:Gr} {f:Int→Int→Prop}
end
section
variable {a b:Gr}
structure MStep (a b:Gr) (s r:MSt):Prop where
 inv:MInv a b r
 sub: ∀i k,PT s i k→PT r i k
 new: ∀i k,PT r i k→PT s i k∨Ztl (PT r) (Za7 a i) (Za7 b k)
 cnt:r.pa.count (-1)≤s.pa.count (-1)
theorem Zmv {f g:Int→Int→Prop} (h: ∀i k,f i k→g i k) {x y:Sp} (hv:ZoV f x y):ZoV g x y:=⟨hv.1,fun e=>h _ _ (hv.2.1 e),hv.2.2⟩
theorem ZnP {f g:Int→Int→Prop} (h: ∀i k,f i k→g i k) {d e:Nd} (hv:Ztl f d e):Ztl g d e:=⟨hv.1,hv.2.1,hv.2.2.mono fun _ _ _ _=>Zmv h⟩
theorem MStep.refl {s:MSt} (h:MInv a b s):MStep a b s s:=⟨h,fun _ _ h=>h,fun _ _ h=>.inl h,Yj _⟩
theorem MStep.trans {s r q:MSt} (h:MStep a b s r) (k:MStep a b r q):MStep a b s q:=
 ⟨k.inv,fun i j hp=>k.sub _ _ (h.sub _ _ hp),fun i j hp=>by
   rcases k.new i j hp with h1|h1
   · rcases h.new i j h1 with h2|h2
     · exact .inl h2
     · exact .inr (ZnP k.sub h2)
   · exact .inr h1,Yi k.cnt h.cnt⟩
end
end
section
open Go.RowKit Go.Lib
theorem Sl.off18 {W U:World} {b sz n:Nat} {t:TypeId} {v:Value} {xs:List Value} (h:Sl W W.heap.size sz v n xs) (hB:Blk W b t #[.slice none 0 0,.slice none 0 0]) (o:Only (isb b) W U) (hi:0<n→ ∃k z,xs[0]? =some (.int k z)):Sl U U.heap.size sz v n xs:=by
 obtain⟨A,c,e,h1,h2,h3,h4⟩:=h;refine⟨A,c,e,h1,h2,h3,fun hn=>?_⟩;obtain⟨b',o',e',hlt,hc⟩:=h4 hn;obtain⟨k,z,hz⟩:=hi hn
 have hne:b'≠b:=by
  rintro rfl
  have:=hc 0 _ hz
  rw[hB.cell] at this
  match o',this with
  |0,this=>simp at this
  |1,this=>simp at this
  |n+2,this=>simp at this
 exact⟨b',o',e',Yw hlt o.size,fun j u hu=>(o.cell (p:=⟨b',o'+j,none⟩) hlt (fun e=>hne e)).trans (hc j u hu)⟩
theorem RdG.off18 {W U:World} {b:Nat} {t:TypeId} {g:Gr} {vn vr:Value} {hs:List (Value×Value)} (h:RdG W W.heap.size g vn vr hs) (hB:Blk W b t #[.slice none 0 0,.slice none 0 0]) (o:Only (isb b) W U):RdG U U.heap.size g vn vr hs:=by
 have hv: ∀l:List Sp,0<l.length→ ∃k z,(spc l)[0]? =some (.int k z):=fun l hl=>by
  cases l with
  |nil=>simp at hl
  |cons x l=>exact⟨_,_,rfl⟩
 refine⟨h.len,h.nodes.off18 hB o fun hn=>?_,fun i d hh h1 h2=>⟨(h.each i d hh h1 h2).fields.off18 hB o (hv _),(h.each i d hh h1 h2).raws.off18 hB o fun hn=>?_⟩,h.roots.off18 hB o (hv _)⟩
 · have hl:=h.len
   match g,hs,hn,hl with
   |⟨d::_,_⟩,x::_,_,_=>exact⟨_,_,rfl⟩
   |⟨d::_,_⟩,[],_,hl=>simp at hl
   |⟨[],_⟩,_,hn,_=>simp at hn
 · cases e:d.rs with
   |nil=>rw[e] at hn;simp at hn
   |cons x l=>exact⟨_,_,rfl⟩
def ZuT (f:FuncId):Prop:= ∀(g:Gr) (vn vr:Value) (hs:List (Value×Value)) (B:Nat) (W:World),RdG W B g vn vr hs→B≤W.heap.size→GrFit g→g.nd.length≤1000→g.rt.length≤1000→
 Calls Tryz.prog f #[.agg #[vn,vr]] W fun e w'=> ∃un ur js,e=.returned (.tuple #[.agg #[un,ur],.int .i64 (Za3 g)])∧RdG w' w'.heap.size (ZeO g) un ur js∧Only nob W w'
theorem Zuq {g:Gr}:rnE g (flatL g 0)=Za3 g:=by
 unfold Za3;by_cases h:ZA g=true
 · rw[if_pos h];exact Zbr.2 (ZgV h)
 · rw[if_neg h];unfold rnE;rw[if_neg h]
theorem Zpz {g:Gr} (h:Za3 g≠0):ZeO g=⟨[],[]⟩:=by
 unfold ZeO rnG;rw[if_neg (by rw[Zuq];exact h)]
theorem ZoX (g:Gr) (hn:g.nd.length≤1000): ∀x∈flatL g 0, -9223372036854775808≤x∧x≤9223372036854775807:=fun x hx=>by
 have h:x∈ZjH g:=by
  rw[← Zew g];exact List.mem_mergeSort.2 hx
 have:=(ZjX.1 h).2
 omega
theorem ZgE (g:Gr):(flatL g 0).length≤g.nd.length:=by
 rw[← Zoa];exact Zpw _ _
theorem Znm (w:World) (an ar bn br:Value): ∃V,((w.alloc (.cells #[an,ar] 27)).alloc (.cells #[bn,br] 27))=V∧Hid (Only nob w V∧Blk V w.heap.size 27 #[an,ar]∧Blk V (w.heap.size+1) 27 #[bn,br]):=
 ⟨_,rfl,ZZ ⟨((Only.refl nob w).alloc _).alloc _,(Blk.new w _ _).alloc _,Blk.newAt _ _ _ _ (by simp)⟩⟩
def ZtR (f:FuncId):Prop:= ∀(a b:Gr) (an ar bn br:Value) (hs js:List (Value×Value)) (B:Nat) (W:World),RdG W B a an ar hs→RdG W B b bn br js→B≤W.heap.size→GrFit a→GrFit b→a.nd.length≤1000→a.rt.length≤1000→b.nd.length≤1000→b.rt.length≤1000→
 Calls Tryz.prog f #[.agg #[an,ar],.agg #[bn,br]] W fun e w'=> ∃v,e=.returned (.tuple #[v,.bool (Za6 a b)])∧OwR w' W.heap.size 3 v (ZhD a b).length (i64s (ZhD a b))∧Only nob W w'
def Ztr (f:FuncId):Prop:= ∀(a b:Gr) (an ar bn br:Value) (hs js:List (Value×Value)) (B:Nat) (W:World),RdG W B a an ar hs→RdG W B b bn br js→B≤W.heap.size→GrFit a→GrFit b→a.nd.length≤1000→a.rt.length≤1000→b.nd.length≤1000→b.rt.length≤1000→
 Calls Tryz.prog f #[.agg #[an,ar],.agg #[bn,br]] W fun e w'=>e=.returned (.bool (Za6 a b))∧Only nob W w'
theorem canG_fit {g:Gr} (h:GrFit g) (hn:g.nd.length≤1000):GrFit (ZeO g):=ZqY h (by have:=ZgE g;omega)
theorem ZrY {g:Gr} {o:List Int}:(rnG g o).nd.length≤o.length∧(rnG g o).rt.length≤g.rt.length:=by
 unfold rnG
 split
 · exact⟨by simp[Zai],by simp[ZO]⟩
 · simp
theorem Zpi {g:Gr} {o:List Int} (h:rnE g o=0) (hn:o.length≤1000000):Za3 g=0∧Za3 (rnG g o)=0∧ZeO (rnG g o)=ZeO g∧Za6 g (rnG g o)=true:=by
 have h1:=(Zbr.1 h).may;obtain⟨h2,h3⟩:=ZsV h hn;exact⟨if_pos h1,if_pos h2,h3,Zee.2 ⟨h1,h2,h3.symm⟩⟩
theorem Zeo:ZuT 44:=by
 intro g vn vr hs B W hr hB hfit hn hrt;obtain⟨A,c,rfl,hac,hcm⟩:=hr.nodes.form;obtain⟨Ar,cr,rfl,hacr,hcmr⟩:=hr.roots.form;obtain⟨V,hV,HVB⟩:=ZiU W (.slice A g.nd.length c) (.slice Ar g.rt.length cr);have HVE:=ZZ hV;have HG:=ZZ (fun (W':World) (o:Only nob W W')=>hr.only o hB);have HBW:=ZZ hB;have HC:=ZZ (Zeq g _ _ hs B V (HG.out V HVB.out.1) (Yi hB HVB.out.1.size) hfit ⟨by omega,by omega⟩);have HP:=ZZ (fun (v:Value) (W':World) (o:Only nob W W') (h:Sl W' W'.heap.size 1 v (flatL g 0).length (i64s (flatL g 0)))=>Zfo g (flatL g 0) _ _ v hs W'.heap.size W' ((HG.out W' o).more (Yi hB o.size)) h (Yj _) hfit hn hrt (by have:=ZgE g;omega) (ZoX g hn))
 obtain⟨E,hE⟩: ∃E,E=Za3 g:=⟨_,rfl⟩
 obtain⟨L,hL⟩: ∃L,L=flatL g 0:=⟨_,rfl⟩
 obtain⟨K,hK⟩: ∃K,K=ZeO g:=⟨_,rfl⟩
 have HN:=ZZ (show E≠0→K=⟨[],[]⟩ from fun h=>by rw[hK];exact Zpz (by rw[← hE];exact h));rw[Zuq,show rnG g (flatL g 0)=ZeO g from rfl, ← hE, ← hL, ← hK] at HP;rw[← hE, ← hL] at HC;rw[← hE, ← hK];have c0:V.cell? ⟨W.heap.size,0,none⟩=some (.slice A g.nd.length c):=HVB.out.2.1.cell 0;have c1:V.cell? ⟨W.heap.size,1,none⟩=some (.slice Ar g.rt.length cr):=HVB.out.2.1.cell 1;clear hV hr hB hfit hn hrt hE hL hK
 go_enter Tryz.func44,Tryz.ntmps44
 go_upto_region 1 with fail
 rw[HVE.out]
 go_wp2_with fail
 go_at_call 46;refine HC.out.mono ?_;rintro e w2 ⟨v1,rfl,h1,o2⟩;have H1:=ZZ h1.sl;have O2:=ZZ (HVB.out.1.trans o2);have B2:=ZZ (HVB.out.2.2.keep o2 id);obtain⟨A2,k2,rfl, -, -⟩:=h1.form;have d0:=o2.keeps c0;have d1:=o2.keeps c1;clear h1 o2 c0 c1;by_cases h0:E=0
 · subst h0
   go_wp2_with fail
   go_at_call 72;refine(HP.out _ w2 O2.out H1.out).mono ?_;rintro e w3 ⟨un,ur,js,rfl,rd,o3⟩;have RD:=ZZ rd;obtain⟨An,cn,rfl, -⟩:=rd.nodes.form;obtain⟨Br,dr,rfl, -⟩:=rd.roots.form;have O3:=ZZ (O2.out.trans o3);have B3:=B2.out.keep o3 id;have b0:w3.cell? ⟨W.heap.size+1,0,none⟩=some (.slice none 0 0):=B3.cell 0;have b1:w3.cell? ⟨W.heap.size+1,1,none⟩=some (.slice none 0 0):=B3.cell 1;have fb0:=B3.free 0;have fb1:=B3.free 1;obtain⟨U,hU,oU,U1⟩:=Zbx B3 (.slice An K.nd.length cn) (.slice Br K.rt.length dr);have HU:=ZZ hU;have OU:=ZZ (O3.out.andThen oU fun i hi e=>by unfold isb at e;omega);have HRD:=ZZ (show RdG U U.heap.size K (.slice An K.nd.length cn) (.slice Br K.rt.length dr) js from rd.off18 B3 oU);clear rd o3 B3 hU oU d0 d1;go_wp2;rw[HU.out];have r0:U.cell? ⟨W.heap.size+1,0,none⟩=some (.slice An K.nd.length cn):=U1.cell 0;have r1:U.cell? ⟨W.heap.size+1,1,none⟩=some (.slice Br K.rt.length dr):=U1.cell 1;refine bodyPost_ret (v:=.tuple #[.agg #[.slice An K.nd.length cn,.slice Br K.rt.length dr],.int .i64 0]) (by simp[results,Tryz.results44,go_sem,r0,r1]) rfl ?_;exact⟨_,_,js,rfl,HRD.out,OU.out⟩
 · have hnb:(E !=0)=true:=by simpa using h0
   have HK:=ZZ (HN.out h0);have b0:w2.cell? ⟨W.heap.size+1,0,none⟩=some (.slice none 0 0):=B2.out.cell 0;have b1:w2.cell? ⟨W.heap.size+1,1,none⟩=some (.slice none 0 0):=B2.out.cell 1;have fb0:=B2.out.free 0;have fb1:=B2.out.free 1;obtain⟨U,hU,oU,U1⟩:=Zbx B2.out (.slice none 0 0) (.slice none 0 0);have HU:=ZZ hU;have OU:=ZZ (O2.out.andThen oU fun i hi e=>by unfold isb at e;omega);clear hU oU d0 d1;go_wp2;rw[HU.out];have r0:U.cell? ⟨W.heap.size+1,0,none⟩=some (.slice none 0 0):=U1.cell 0;have r1:U.cell? ⟨W.heap.size+1,1,none⟩=some (.slice none 0 0):=U1.cell 1;refine bodyPost_ret (v:=.tuple #[.agg #[.slice none 0 0,.slice none 0 0],.int .i64 E]) (by simp[results,Tryz.results44,go_sem,r0,r1]) rfl ?_;exact⟨_,_,[],rfl,by rw[HK.out];exact ZeH _,OU.out⟩
theorem Zd2 {g:Gr}:Za3 g=0↔ZA g=true:=by
 unfold Za3
 cases ZA g <;> simp
theorem alike_e {a b:Gr} (ha:Za3 a=0) (hb:Za3 b=0):Za6 a b=Zeg (ZeO a) (ZeO b):=by
 unfold Za6;rw[Zd2.1 ha,Zd2.1 hb];simp
theorem Zo4 {a b:Gr} (h:Za3 a≠0∨Za3 b≠0):Za6 a b=false:=by
 apply Bool.eq_false_iff.2;intro e;obtain⟨h1,h2, -⟩:=Zee.1 e;rcases h with h|h
 · exact h (Zd2.2 h1)
 · exact h (Zd2.2 h2)
theorem Ze8:Ztr 17:=by
 intro a b an ar bn br hs js B W hra hrb hB hfa hfb hna hta hnb htb;obtain⟨A,ca,rfl,hac,hcm⟩:=hra.nodes.form;obtain⟨A',cb,rfl,hbc,hcm'⟩:=hrb.nodes.form;obtain⟨Ar,cra,rfl,hrac,hrcm⟩:=hra.roots.form;obtain⟨Br,crb,rfl,hrbc,hrcm'⟩:=hrb.roots.form;obtain⟨V,hV,HVB⟩:=Znm W (.slice A a.nd.length ca) (.slice Ar a.rt.length cra) (.slice A' b.nd.length cb) (.slice Br b.rt.length crb);have HVE:=ZZ hV;have HC1:=ZZ (Zeo a _ _ hs B V (hra.only HVB.out.1 hB) (Yi hB HVB.out.1.size) hfa hna hta);have HC2:=ZZ (fun (W':World) (o:Only nob W W')=>Zeo b _ _ js B W' (hrb.only o hB) (Yi hB o.size) hfb hnb htb);have HK:=ZZ (And.intro (canG_fit hfa hna) (canG_fit hfb hnb));have HE:=ZZ (And.intro (alike_e (a:=a) (b:=b)) (Zo4 (a:=a) (b:=b)))
 obtain⟨q,hq⟩: ∃q,q=Za6 a b:=⟨_,rfl⟩
 obtain⟨E,hE⟩: ∃z,z=Za3 a:=⟨_,rfl⟩
 obtain⟨F,hF⟩: ∃z,z=Za3 b:=⟨_,rfl⟩
 obtain⟨K,hK⟩: ∃z,z=ZeO a:=⟨_,rfl⟩
 obtain⟨L,hL⟩: ∃z,z=ZeO b:=⟨_,rfl⟩
 rw[← hq, ← hE, ← hF, ← hK, ← hL] at HE;rw[← hE, ← hK] at HC1;rw[← hF, ← hL] at HC2;rw[← hK, ← hL] at HK;rw[← hq];have c0:V.cell? ⟨W.heap.size,0,none⟩=some (.slice A a.nd.length ca):=HVB.out.2.1.cell 0;have c1:V.cell? ⟨W.heap.size,1,none⟩=some (.slice Ar a.rt.length cra):=HVB.out.2.1.cell 1;clear hV hra hrb hB hfa hfb hna hta hnb htb hq hE hF hK hL
 go_enter Tryz.func17,Tryz.ntmps17
 go_upto_region 1 with fail
 rw[HVE.out]
 go_wp2_with fail
 go_at_call 44;refine HC1.out.mono ?_;rintro e w2 ⟨un,ur,ks,rfl,rd,o2⟩;have RD1:=ZZ rd;obtain⟨An,cn,rfl, -⟩:=rd.nodes.form;obtain⟨Ar2,cr2,rfl, -⟩:=rd.roots.form;obtain⟨X,hX,HBX⟩:=Zbj w2 (.slice An K.nd.length cn) (.slice Ar2 K.rt.length cr2);have HX:=ZZ hX;have O2:=ZZ (HVB.out.1.trans (o2.trans HBX.out.1));have e0:X.cell? ⟨W.heap.size+1,0,none⟩=some (.slice A' b.nd.length cb):=(HVB.out.2.2.keep (o2.trans HBX.out.1) id).cell 0;have e1:X.cell? ⟨W.heap.size+1,1,none⟩=some (.slice Br b.rt.length crb):=(HVB.out.2.2.keep (o2.trans HBX.out.1) id).cell 1;clear rd o2 hX c0 c1
 go_upto_region 2 with fail
 rw[HX.out]
 go_wp2_with fail
 go_at_call 44;refine(HC2.out X O2.out).mono ?_;rintro e w3 ⟨vn,vr,ls,rfl,rd,o3⟩;have RD2:=ZZ rd;obtain⟨Bn,dn,rfl, -⟩:=rd.nodes.form;obtain⟨Br2,dr2,rfl, -⟩:=rd.roots.form;obtain⟨Y,hY,HBY⟩:=Zbj w3 (.slice Bn L.nd.length dn) (.slice Br2 L.rt.length dr2);have HY:=ZZ hY;have O3:=ZZ (O2.out.trans (o3.trans HBY.out.1));have R1:=ZZ (RD1.out.only (HBX.out.1.trans (o3.trans HBY.out.1)) (Yj _));have R2:=ZZ (RD2.out.only HBY.out.1 (Yj _));have S1:=ZZ (HBX.out.1.trans (o3.trans HBY.out.1)).size;have S2:=ZZ HBY.out.1.size;have c0:Y.cell? ⟨w2.heap.size,0,none⟩=some (.slice An K.nd.length cn):=(HBX.out.2.keep (o3.trans HBY.out.1) id).cell 0;have c1:Y.cell? ⟨w2.heap.size,1,none⟩=some (.slice Ar2 K.rt.length cr2):=(HBX.out.2.keep (o3.trans HBY.out.1) id).cell 1;have d0:Y.cell? ⟨w3.heap.size,0,none⟩=some (.slice Bn L.nd.length dn):=HBY.out.2.cell 0;have d1:Y.cell? ⟨w3.heap.size,1,none⟩=some (.slice Br2 L.rt.length dr2):=HBY.out.2.cell 1;clear rd o3 hY e0 e1
 go_upto_region 3 with fail
 rw[HY.out];by_cases hE:E=0
 · subst hE
   by_cases hF:F=0
   · subst hF
     have HQ:=ZZ (HE.out.1 rfl rfl)
     go_wp2_with fail
     go_at_call 45;refine(ZlO K L _ _ _ _ _ _ _ _ Y R1.out R2.out S1.out S2.out HK.out.1 HK.out.2).mono ?_;rintro e w9 ⟨rfl,o9⟩;have O9:=ZZ (O3.out.trans o9);clear o9 c0 c1 d0 d1;rw[← HQ.out];go_wp2;go_ret;exact⟨rfl,O9.out⟩
   · have hb:(F==0)=false:=by simpa using hF
     have HQ:=ZZ (HE.out.2 (.inr hF));clear c0 c1 d0 d1 hF;go_wp2;go_ret;exact⟨Zb (by rw[HQ.out]),O3.out⟩
 · have hb:(E==0)=false:=by simpa using hE
   have HQ:=ZZ (HE.out.2 (.inl hE));clear c0 c1 d0 d1 hE;go_wp2;go_ret;exact⟨Zb (by rw[HQ.out]),O3.out⟩
end
end Go.Proofs.YtknoncenblehkaaGreatDoor
