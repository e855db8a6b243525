/- slices.Sort at ints of this program: the library's contract What plans meet, counted. No program in it. Graphs that are alike: nodes paired; what is met of two of t The document's own answer for layer 18: rows of -1; a graph The document's own answer for layer 18: two graphs matched. The laws of chapter 18: walked, over what package canon is a Package canon: Canon, as Breadth and Renumber. Alike, by two -/
import Derived.Test.YteieocddfnlmdaaGreatDoorQ36
import Derived.Shelf.Sort.Plain
import Derived.Shelf.Slices.In.SortNone
import Derived.Lib.SortBridge
import Derived.Test.YteieocddfnlmdaaGreatDoorQ31
set_option maxRecDepth 100000
set_option maxHeartbeats 32000000
set_option linter.unusedSimpArgs false
set_option linter.unusedVariables false
namespace Go.Proofs.YteieocddfnlmdaaGreatDoor
section
open Go.Shelf
def lays189_ren:Go.Shelf.Ren:=⟨fun|125=>117|128=>161|129=>162|189=>77|215=>203|216=>158|257=>116|294=>152|295=>153|296=>154|297=>155|298=>156|299=>157|300=>159|301=>160|328=>198|329=>199|330=>200|331=>201|332=>202|343=>227|n=>n,fun|0=>0|3=>3|4=>4|5=>5|9=>9|28=>35|46=>165|51=>206|53=>48|131=>203|182=>197|183=>198|218=>241|222=>245|228=>268|229=>126|n=>n,fun|n=>n⟩
theorem Znu:Lays.n189 Tryz.prog lays189_ren:={
 mixed:=by kernel_rfl
 f125:=Tryz.func117.trans (congrArg some (by kernel_rfl))
 f128:=Tryz.func161.trans (congrArg some (by kernel_rfl))
 f129:=Tryz.func162.trans (congrArg some (by kernel_rfl))
 f189:=Tryz.func77.trans (congrArg some (by kernel_rfl))
 f215:=Tryz.func203.trans (congrArg some (by kernel_rfl))
 f216:=Tryz.func158.trans (congrArg some (by kernel_rfl))
 f257:=Tryz.func116.trans (congrArg some (by kernel_rfl))
 f294:=Tryz.func152.trans (congrArg some (by kernel_rfl))
 f295:=Tryz.func153.trans (congrArg some (by kernel_rfl))
 f296:=Tryz.func154.trans (congrArg some (by kernel_rfl))
 f297:=Tryz.func155.trans (congrArg some (by kernel_rfl))
 f298:=Tryz.func156.trans (congrArg some (by kernel_rfl))
 f299:=Tryz.func157.trans (congrArg some (by kernel_rfl))
 f300:=Tryz.func159.trans (congrArg some (by kernel_rfl))
 f301:=Tryz.func160.trans (congrArg some (by kernel_rfl))
 f328:=Tryz.func198.trans (congrArg some (by kernel_rfl))
 f329:=Tryz.func199.trans (congrArg some (by kernel_rfl))
 f330:=Tryz.func200.trans (congrArg some (by kernel_rfl))
 f331:=Tryz.func201.trans (congrArg some (by kernel_rfl))
 f332:=Tryz.func202.trans (congrArg some (by kernel_rfl))
 f343:=Tryz.func227.trans (congrArg some (by kernel_rfl))
 t0:=Tryz.underlying0
 a0:=Tryz.isAgg0
 z0:=Tryz.sizeOf0
 v0:=Tryz.zeroValue0
 t3:=Tryz.underlying3
 a3:=Tryz.isAgg3
 z3:=Tryz.sizeOf3
 v3:=Tryz.zeroValue3
 t4:=Tryz.underlying4
 a4:=Tryz.isAgg4
 z4:=Tryz.sizeOf4
 v4:=Tryz.zeroValue4
 t5:=Tryz.underlying5
 a5:=Tryz.isAgg5
 z5:=Tryz.sizeOf5
 v5:=Tryz.zeroValue5
 t9:=Tryz.underlying9
 a9:=Tryz.isAgg9
 z9:=Tryz.sizeOf9
 v9:=Tryz.zeroValue9
 t28:=Tryz.underlying35
 a28:=Tryz.isAgg35
 z28:=Tryz.sizeOf35
 v28:=Tryz.zeroValue35
 t46:=Tryz.underlying165
 a46:=Tryz.isAgg165
 z46:=Tryz.sizeOf165
 v46:=Tryz.zeroValue165
 t51:=Tryz.underlying206
 a51:=Tryz.isAgg206
 z51:=Tryz.sizeOf206
 v51:=Tryz.zeroValue206
 t53:=Tryz.underlying48
 a53:=Tryz.isAgg48
 z53:=Tryz.sizeOf48
 v53:=Tryz.zeroValue48
 t131:=Tryz.underlying203
 a131:=Tryz.isAgg203
 z131:=Tryz.sizeOf203
 v131:=Tryz.zeroValue203
 t182:=Tryz.underlying197
 a182:=Tryz.isAgg197
 z182:=Tryz.sizeOf197
 v182:=Tryz.zeroValue197
 t183:=Tryz.underlying198
 a183:=Tryz.isAgg198
 z183:=Tryz.sizeOf198
 v183:=Tryz.zeroValue198
 t218:=Tryz.underlying241
 a218:=Tryz.isAgg241
 z218:=Tryz.sizeOf241
 v218:=Tryz.zeroValue241
 t222:=Tryz.underlying245
 a222:=Tryz.isAgg245
 z222:=Tryz.sizeOf245
 v222:=Tryz.zeroValue245
 t228:=Tryz.underlying268
 a228:=Tryz.isAgg268
 z228:=Tryz.sizeOf268
 v228:=Tryz.zeroValue268
 t229:=Tryz.underlying126
 a229:=Tryz.isAgg126
 z229:=Tryz.sizeOf126
 v229:=Tryz.zeroValue126}
end
section
open Go.RowKit Go.Lib Go.Sort Go.Shelf
theorem ZgY {b:Nat} {E:TypeId}: ∀(vs:List Value) (o:Nat) (w:World) (cur:Array Value),Blk w b E cur→o+vs.length≤cur.size→ ∃cur',Blk (w.setCells b o vs) b E cur'∧cur'.size=cur.size∧(cur'.toList.drop o).take vs.length=vs∧(∀j,j<o→cur'[j]? =cur[j]?)∧Only (isb b) w (w.setCells b o vs)
 |[],o,w,cur,h,_=>⟨cur,h,rfl,by simp,fun _ _=>rfl,Only.refl _ _⟩
 |v::r,o,w,cur,h,hl=>by
  have hl':o+(r.length+1)≤cur.size:=hl;obtain⟨c',h1,h2,h3,h4,h5⟩:=ZgY r (o+1) _ _ (h.put o v) (by simp;omega);refine⟨c',h1,by simpa using h2,?_,fun j hj=>?_,(Zd w b o v).trans h5⟩
  · have hv:c'.toList[o]? =some v:=by rw[Array.getElem?_toList,h4 o (by omega),Array.getElem?_setIfInBounds_self_of_lt (by omega)]
    obtain⟨hlt,hv2⟩:=Yk.1 hv;rw[List.drop_eq_getElem_cons hlt,List.length_cons,List.take_succ_cons,h3,hv2]
  · rw[h4 j (by omega),Array.getElem?_setIfInBounds_ne (by omega)]
theorem Zee (l:List Int):(l.mergeSort fun x y=>decide (x≤y)).length=l.length:=List.length_mergeSort ..
theorem Zuf (w:World) (base:Nat) (v:Value) (l:List Int) (h:OwR w base 3 v l.length (i64s l)) (hl:l.length<4611686018427387904):
 Calls Tryz.prog 77 #[v] w fun e w'=>e=.returned (.tuple #[])∧OwR w' base 3 v l.length (i64s (l.mergeSort fun x y=>decide (x≤y)))∧Only (fun k=>v.ownBlock=some k) w w':=by
 rcases l with _|⟨x,l⟩
 · obtain⟨A,c,rfl, -, -⟩:=h.form
   refine(Any.slices_Sort_int_none Znu A c w).mono ?_;rintro e w' ⟨rfl,rfl⟩;exact⟨rfl,by simpa using h,Only.refl _ _⟩
 · obtain⟨L,hL⟩: ∃L,L=x::l:=⟨_,rfl⟩
   rw[← hL] at h hl ⊢;obtain⟨A,c,rfl, -, -⟩:=h.form
   rcases h.2 with⟨e,e2⟩|⟨g,o,cap,cur,e,hb,hg,h1,h2,h3,h4⟩
   · rw[hL] at e2;cases e2
   · simp only[Value.slice.injEq] at e
     obtain⟨rfl, -,rfl⟩:=e;have hbk:Blk w g 3 cur:=hg
     have hc: ∀j,j<L.length→w.cell? ⟨g,o+j,none⟩=some (.int .i64 (L.getD j 0)):=fun j hj=>by
      rw[hbk.cell, ← Array.getElem?_toList]
      have h5:(i64s L)[j]? =some (.int .i64 (L.getD j 0)):=by
       unfold i64s;rw[List.getElem?_map,Yn,Ya hj];rfl
      rw[← h4,List.getElem?_take_of_lt hj,List.getElem?_drop] at h5;exact h5
     have hH:=Lib.holds_of_ints (Yj _) hc fun j _=>hbk.free _;rw[List.take_length] at hH;refine(Any.slices_Sort_int Znu g o c L w hH hbk.lt hl).mono ?_;rintro e w' ⟨rfl,q,os,rfl⟩
     obtain⟨S,hS⟩: ∃S,S=L.mergeSort fun x y=>decide (x≤y):=⟨_,rfl⟩
     have hSl:S.length=L.length:=by rw[hS];exact Zee L
     rw[← hS,Lib.sorted_world _ w g o q _ _ os hH (by simpa using hSl)];obtain⟨cur',q1,q2,q3, -,q5⟩:=ZgY (S.map (Value.int .i64)) o (w.drewN q) cur (hbk.drewN q) (by simp;omega);have o1:Only (isb g) w ((w.drewN q).setCells g o (S.map (Value.int .i64))):=((Only.refl _ w).drewN q).trans q5;have hh: ∀k,k<((w.drewN q).setCells g o (S.map (Value.int .i64))).heap.size→(grow ((w.drewN q).setCells g o (S.map (Value.int .i64))) os).heap[k]? =((w.drewN q).setCells g o (S.map (Value.int .i64))).heap[k]? :=fun k hk=>heap_grow_old _ os hk;refine⟨rfl,⟨by simpa[i64s] using hSl,.inr ⟨g,o,c,cur',rfl,hb,(hh g q1.lt).trans q1,h1,h2,by omega,?_⟩⟩,⟨o1.os,o1.tape,o1.output,Yi o1.size (by simp),fun k hk hn=>(hh k (Yw hk o1.size)).trans (o1.block k hk fun e=>hn (by rw[e];rfl))⟩⟩;rw[List.length_map,hSl] at q3;exact q3
theorem Zk0 {l:List Int} {n:Nat} {x:Int}:x∈Zgl l n↔x∈l∧0≤x∧x<n:=by
 unfold Zgl;rw[List.mem_filter,List.mem_map];constructor
 · rintro⟨⟨k,hk,rfl⟩,h⟩
   have:=List.mem_range.1 hk
   exact⟨by simpa using h,by omega,by omega⟩
 · rintro⟨h1,h2,h3⟩
   exact⟨⟨x.toNat,List.mem_range.2 (by omega),by omega⟩,by simpa using h1⟩
theorem ZoC (l:List Int) (n:Nat):(Zgl l n).Pairwise (· < ·):=by
 unfold Zgl;refine List.Pairwise.filter _ ?_;rw[List.pairwise_map];exact List.Pairwise.imp (fun h=>by omega) List.pairwise_lt_range
theorem ZnS {l:List Int} {n:Nat} (hn:l.Nodup) (hr: ∀x∈l,0≤x∧x<(n:Int)):(l.mergeSort fun x y=>decide (x≤y))=Zgl l n:=by
 have p1:(l.mergeSort fun x y=>decide (x≤y)).Perm (Zgl l n):=by
  refine(List.mergeSort_perm l _).trans ((List.perm_ext_iff_of_nodup hn ((ZoC l n).imp fun h=>by omega)).2 fun x=>?_);rw[Zk0];exact⟨fun h=>⟨h,hr x h⟩,fun h=>h.1⟩
 have s1:=List.pairwise_mergeSort (le:=fun x y:Int=>decide (x≤y)) (fun a b c h1 h2=>by simp at h1 h2 ⊢;omega) (fun a b=>by simp;omega) l;refine List.Perm.eq_of_pairwise (le:=fun x y:Int=>decide (x≤y)=true) (fun a b _ _ h1 h2=>by simp at h1 h2;omega) s1 ((ZoC l n).imp fun h=>by simp;omega) p1
theorem flat_rising (g:Gr):((flatL g 0).mergeSort fun x y=>decide (x≤y))=Zbn g:=by
 unfold Zbn;refine ZnS ?_ fun x hx=>?_
 · unfold flatL
   by_cases h:Z9 g=true
   · rw[if_pos h]
     exact(List.nodup_append.1 (ZdG h 1000000 0 1).nodup).1
   · rw[if_neg h];exact List.nodup_nil
 · unfold flatL at hx
   by_cases h:Z9 g=true
   · rw[if_pos h] at hx
     exact(ZdG h 1000000 0 1).rng x (Yr.2 (.inl hx))
   · rw[if_neg h] at hx;cases hx
theorem flat_len (g:Gr) (hbd:GrBd g):(flatL g 0).length≤1000:=by
 have h1:(flatL g 0).length=(Zbn g).length:=by rw[← flat_rising g];exact(Zee _).symm
 have:=ZhN (flatL g 0) g.nd.length
 have:=hbd.nd
 unfold Zbn at h1;omega
theorem reach_len (g:Gr):(Zbn g).length=(flatL g 0).length:=by rw[← flat_rising g];exact Zee _
theorem ZtL:Znw 37:=by
 intro g vn vr hs B W hr hB hfit hbd;obtain⟨An,cn,rfl,hacn,hcmn⟩:=hr.nodes.form;obtain⟨Ar,cr,rfl,hacr,hcmr⟩:=hr.roots.form;obtain⟨W1,hW1,o1,b1⟩:=ZcR W An Ar g.nd.length cn g.rt.length cr;have HW1:=ZZ hW1;have O1:=ZZ o1;have HC:=ZZ (ZiC g _ _ hs B W1 (hr.only o1 hB) (Yi hB o1.size) hfit hbd);have HF:=ZZ (And.intro (flat_rising g) (And.intro (flat_len g hbd) (reach_len g)));have c0:W1.cell? ⟨W.heap.size,0,none⟩=some (.slice An g.nd.length cn):=b1.cell 0;have c1:W1.cell? ⟨W.heap.size,1,none⟩=some (.slice Ar g.rt.length cr):=b1.cell 1;clear hW1 o1 b1 hr hB hfit hbd
 go_enter Tryz.func37,Tryz.ntmps37
 go_upto_region 1 with fail
 rw[HW1.out]
 go_wp2_with fail
 go_at_call 76;refine HC.out.mono ?_;rintro e w2 ⟨v1,rfl,h1,o2⟩;have H1:=ZZ h1;have O2:=ZZ (O1.out.trans o2);have HS:=ZZ (Zuf w2 _ v1 (flatL g 0) h1 (by have:=HF.out.2.1;omega));obtain⟨A2,k2,rfl, -, -⟩:=h1.form;clear h1 o2 c0 c1
 go_wp2_with fail
 go_at_call 77;refine HS.out.mono ?_;rintro e w3 ⟨rfl,h3,o3⟩;rw[HF.out.1, ← HF.out.2.2] at h3;have H3:=ZZ (h3.more O1.out.size);have O3:=ZZ (O2.out.andThen o3 fun i hi e=>absurd (H1.out.lt e).1 (by have:=O1.out.size;omega));rw[← HF.out.2.2];clear h3 o3;go_wp2;go_ret2;exact⟨_,rfl,H3.out,O3.out⟩
end
section
open Go.RowKit Go.Lib
def gV:Gr:=⟨[],[(2,0)]⟩
theorem ZcQ {g:Gr} (hg:Z9 g=true) {lim:Int} (hl:8193≤lim): ∀(l:List Sp) (s:PSt),s.large=[]→(lookW g lim l s).large=[]
 |[],s,h=>h
 |v::l,s,h=>by
  show(lookW g lim l (Zv g lim v s)).large=[];refine ZcQ hg hl l _ ?_;have hs:=ZnD hg v.2;unfold Zv;rw[if_neg (show ¬lim<ZbK (ZbC g v.2) by omega)];by_cases hn:ZY v s=true
  · rw[if_pos hn];exact h
  · rw[if_neg hn];exact h
theorem Zlt {g:Gr} (hg:Z9 g=true) {lim:Int} (hl:8193≤lim) (b:Int): ∀(n:Nat) (s:PSt),s.large=[]→(Zhp g lim 0 b n s).large=[]
 |0,s,h=>h
 |n+1,s,h=>by
  rw[Zhp]
  cases hs:ZaY g lim 0 b s with
  |none=>exact h
  |some s'=>
   refine Zlt hg hl b n s' ?_;unfold ZaY at hs
   split at hs
   · obtain rfl:=Yp hs
     unfold ZS;rw[if_neg (by decide)];exact ZcQ hg hl _ _ h
   · split at hs
     · cases hs
     · obtain rfl:=Yp hs
       unfold ZS;rw[if_neg (by decide)];exact ZcQ hg hl _ _ h
theorem Zmw {g:Gr} (hg:Z9 g=true):(ZbZ g 1000000 0 1).large=[]:=by
 unfold ZbZ;refine Zlt hg (by decide) 1 _ _ ?_;unfold ZS;rw[if_neg (by decide)];exact ZcQ hg (by decide) _ _ rfl
section
variable {α β γ δ:Type} {R:α→β→Prop}
end
section
variable {a b:Gr} {f:Int→Int→Prop} {lim:Int}
end
theorem Zp0 {g:Gr} (hg:Z9 g=true):ZcM g.nd.length (flatL g 0)=true:=by
 rw[ZbV];unfold flatL;rw[if_pos hg];have w:=ZdG hg 1000000 0 1;exact⟨fun x hx=>w.rng x (Yr.2 (.inl hx)),(List.nodup_append.1 w.nodup).1⟩
theorem Zhs {g:Gr} (hg:Z9 g=true) (x:Int):x∈flatL g 0↔Rch g x:=by
 have:=(ZqQ (g:=g) 1000000 0 1 hg).2 x
 rw[← this];unfold PSt.met flatL;rw[Zmw hg,if_pos hg,List.append_nil]
theorem ZtK {g:Gr} (hg:Z9 g=true):RnOk g (flatL g 0):=by
 refine⟨hg,Zp0 hg,?_,?_⟩
 · rw[List.all_eq_true]
   intro d hd;obtain⟨x,hx,rfl⟩:=List.mem_map.1 hd;unfold ZrD;rw[List.all_eq_true];intro v hv;unfold Zcg;by_cases h2:v.1=2
   · rw[Ym h2,Ym ((Zhs hg _).2 (Rch.next ((Zhs hg x).1 hx) hv h2))];rfl
   · rw[Yl h2];rfl
 · unfold ZrD
   rw[List.all_eq_true];intro v hv;unfold Zcg;by_cases h2:v.1=2
   · rw[Ym h2,Ym ((Zhs hg _).2 (Rch.root hv h2))];rfl
   · rw[Yl h2];rfl
def Zlr (g:Gr):Gr:=rnG g (flatL g 0)
section
variable {a b:Gr} {f:Int→Int→Prop}
end
noncomputable def Zcr (a b:Gr):Bool:=Z9 a&&(Z9 b&&ZbM (Zlr a) (Zlr b))
theorem Zpn {a b:Gr}:Zcr a b=true↔Z9 a=true∧Z9 b=true∧Zlr a=Zlr b:=by
 unfold Zcr ZbM;simp
theorem Zmy (a:Gr):Zcr a a=Z9 a:=by
 unfold Zcr ZbM
 cases Z9 a <;> simp
end
section
open Go.RowKit Go.Lib
theorem Sl.off18 {W U:World} {b sz n:Nat} {t:TypeId} {v:Value} {xs:List Value} (h:Sl W W.heap.size sz v n xs) (hB:Blk W b t #[.slice none 0 0,.slice none 0 0]) (o:Only (isb b) W U) (hi:0<n→ ∃k z,xs[0]? =some (.int k z)):Sl U U.heap.size sz v n xs:=by
 obtain⟨A,c,e,h1,h2,h3,h4⟩:=h;refine⟨A,c,e,h1,h2,h3,fun hn=>?_⟩;obtain⟨b',o',e',hlt,hc⟩:=h4 hn;obtain⟨k,z,hz⟩:=hi hn
 have hne:b'≠b:=by
  rintro rfl
  have:=hc 0 _ hz
  rw[hB.cell] at this
  match o',this with
  |0,this=>simp at this
  |1,this=>simp at this
  |n+2,this=>simp at this
 exact⟨b',o',e',Yw hlt o.size,fun j u hu=>(o.cell (p:=⟨b',o'+j,none⟩) hlt (fun e=>hne e)).trans (hc j u hu)⟩
theorem RdG.off18 {W U:World} {b:Nat} {t:TypeId} {g:Gr} {vn vr:Value} {hs:List (Value×Value)} (h:RdG W W.heap.size g vn vr hs) (hB:Blk W b t #[.slice none 0 0,.slice none 0 0]) (o:Only (isb b) W U):RdG U U.heap.size g vn vr hs:=by
 have hv: ∀l:List Sp,0<l.length→ ∃k z,(spc l)[0]? =some (.int k z):=fun l hl=>by
  cases l with
  |nil=>simp at hl
  |cons x l=>exact⟨_,_,rfl⟩
 refine⟨h.len,h.nodes.off18 hB o fun hn=>?_,fun i d hh h1 h2=>⟨(h.each i d hh h1 h2).fields.off18 hB o (hv _),(h.each i d hh h1 h2).raws.off18 hB o fun hn=>?_⟩,h.roots.off18 hB o (hv _)⟩
 · have hl:=h.len
   match g,hs,hn,hl with
   |⟨d::_,_⟩,x::_,_,_=>exact⟨_,_,rfl⟩
   |⟨d::_,_⟩,[],_,hl=>simp at hl
   |⟨[],_⟩,_,hn,_=>simp at hn
 · cases e:d.rs with
   |nil=>rw[e] at hn;simp at hn
   |cons x l=>exact⟨_,_,rfl⟩
def Zvq (f:FuncId):Prop:= ∀(g:Gr) (vn vr:Value) (hs:List (Value×Value)) (B:Nat) (W:World),RdG W B g vn vr hs→B≤W.heap.size→GrFit g→g.nd.length≤1000→g.rt.length≤1000→
 Calls Tryz.prog f #[.agg #[vn,vr]] W fun e w'=> ∃un ur js,e=.returned (.tuple #[.agg #[un,ur],.int .i64 (Zbw g)])∧RdG w' w'.heap.size (Zlr g) un ur js∧Only nob W w'
theorem ZuE {g:Gr}:rnE g (flatL g 0)=Zbw g:=by
 unfold Zbw;by_cases h:Z9 g=true
 · rw[if_pos h];exact Zot.2 (ZtK h)
 · rw[if_neg h];unfold rnE;rw[if_neg h]
theorem Zp6 {g:Gr} (h:Zbw g≠0):Zlr g=⟨[],[]⟩:=by
 unfold Zlr rnG;rw[if_neg (by rw[ZuE];exact h)]
theorem Zrk (g:Gr) (hn:g.nd.length≤1000): ∀x∈flatL g 0, -9223372036854775808≤x∧x≤9223372036854775807:=fun x hx=>by
 have h:x∈Zbn g:=by
  rw[← flat_rising g];exact List.mem_mergeSort.2 hx
 have:=(Zk0.1 h).2
 omega
theorem ZkS (g:Gr):(flatL g 0).length≤g.nd.length:=by
 rw[← reach_len];exact ZhN _ _
theorem ZsP (w:World) (an ar bn br:Value): ∃V,((w.alloc (.cells #[an,ar] 34)).alloc (.cells #[bn,br] 34))=V∧Hid (Only nob w V∧Blk V w.heap.size 34 #[an,ar]∧Blk V (w.heap.size+1) 34 #[bn,br]):=
 ⟨_,rfl,ZZ ⟨((Only.refl nob w).alloc _).alloc _,(Blk.new w _ _).alloc _,Blk.newAt _ _ _ _ (by simp)⟩⟩
def Zvk (f:FuncId):Prop:= ∀(a b:Gr) (an ar bn br:Value) (hs js:List (Value×Value)) (B:Nat) (W:World),RdG W B a an ar hs→RdG W B b bn br js→B≤W.heap.size→GrFit a→GrFit b→a.nd.length≤1000→a.rt.length≤1000→b.nd.length≤1000→b.rt.length≤1000→
 Calls Tryz.prog f #[.agg #[an,ar],.agg #[bn,br]] W fun e w'=>e=.returned (.bool (Zcr a b))∧Only nob W w'
theorem canG_fit {g:Gr} (h:GrFit g) (hn:g.nd.length≤1000):GrFit (Zlr g):=ZuZ h (by have:=ZkS g;omega)
theorem Zfp:Zvq 84:=by
 intro g vn vr hs B W hr hB hfit hn hrt;obtain⟨A,c,rfl,hac,hcm⟩:=hr.nodes.form;obtain⟨Ar,cr,rfl,hacr,hcmr⟩:=hr.roots.form;obtain⟨V,hV,HVB⟩:=Zkt W (.slice A g.nd.length c) (.slice Ar g.rt.length cr);have HVE:=ZZ hV;have HG:=ZZ (fun (W':World) (o:Only nob W W')=>hr.only o hB);have HBW:=ZZ hB;have HC:=ZZ (ZiC g _ _ hs B V (HG.out V HVB.out.1) (Yi hB HVB.out.1.size) hfit ⟨by omega,by omega⟩);have HP:=ZZ (fun (v:Value) (W':World) (o:Only nob W W') (h:Sl W' W'.heap.size 1 v (flatL g 0).length (i64s (flatL g 0)))=>Zgo g (flatL g 0) _ _ v hs W'.heap.size W' ((HG.out W' o).more (Yi hB o.size)) h (Yj _) hfit hn hrt (by have:=ZkS g;omega) (Zrk g hn))
 obtain⟨E,hE⟩: ∃E,E=Zbw g:=⟨_,rfl⟩
 obtain⟨L,hL⟩: ∃L,L=flatL g 0:=⟨_,rfl⟩
 obtain⟨K,hK⟩: ∃K,K=Zlr g:=⟨_,rfl⟩
 have HN:=ZZ (show E≠0→K=⟨[],[]⟩ from fun h=>by rw[hK];exact Zp6 (by rw[← hE];exact h));rw[ZuE,show rnG g (flatL g 0)=Zlr g from rfl, ← hE, ← hL, ← hK] at HP;rw[← hE, ← hL] at HC;rw[← hE, ← hK];have c0:V.cell? ⟨W.heap.size,0,none⟩=some (.slice A g.nd.length c):=HVB.out.2.1.cell 0;have c1:V.cell? ⟨W.heap.size,1,none⟩=some (.slice Ar g.rt.length cr):=HVB.out.2.1.cell 1;clear hV hr hB hfit hn hrt hE hL hK
 go_enter Tryz.func84,Tryz.ntmps84
 go_upto_region 1 with fail
 rw[HVE.out]
 go_wp2_with fail
 go_at_call 76;refine HC.out.mono ?_;rintro e w2 ⟨v1,rfl,h1,o2⟩;have H1:=ZZ h1.sl;have O2:=ZZ (HVB.out.1.trans o2);have B2:=ZZ (HVB.out.2.2.keep o2 id);obtain⟨A2,k2,rfl, -, -⟩:=h1.form;have d0:=o2.keeps c0;have d1:=o2.keeps c1;clear h1 o2 c0 c1;by_cases h0:E=0
 · subst h0
   go_wp2_with fail
   go_at_call 125;refine(HP.out _ w2 O2.out H1.out).mono ?_;rintro e w3 ⟨un,ur,js,rfl,rd,o3⟩;have RD:=ZZ rd;obtain⟨An,cn,rfl, -⟩:=rd.nodes.form;obtain⟨Br,dr,rfl, -⟩:=rd.roots.form;have O3:=ZZ (O2.out.trans o3);have B3:=B2.out.keep o3 id;have b0:w3.cell? ⟨W.heap.size+1,0,none⟩=some (.slice none 0 0):=B3.cell 0;have b1:w3.cell? ⟨W.heap.size+1,1,none⟩=some (.slice none 0 0):=B3.cell 1;have fb0:=B3.free 0;have fb1:=B3.free 1;obtain⟨U,hU,oU,U1⟩:=Za1 B3 (.slice An K.nd.length cn) (.slice Br K.rt.length dr);have HU:=ZZ hU;have OU:=ZZ (O3.out.andThen oU fun i hi e=>by unfold isb at e;omega);have HRD:=ZZ (show RdG U U.heap.size K (.slice An K.nd.length cn) (.slice Br K.rt.length dr) js from rd.off18 B3 oU);clear rd o3 B3 hU oU d0 d1;go_wp2;rw[HU.out];have r0:U.cell? ⟨W.heap.size+1,0,none⟩=some (.slice An K.nd.length cn):=U1.cell 0;have r1:U.cell? ⟨W.heap.size+1,1,none⟩=some (.slice Br K.rt.length dr):=U1.cell 1;refine bodyPost_ret (v:=.tuple #[.agg #[.slice An K.nd.length cn,.slice Br K.rt.length dr],.int .i64 0]) (by simp[results,Tryz.results84,go_sem,r0,r1]) rfl ?_;exact⟨_,_,js,rfl,HRD.out,OU.out⟩
 · have hnb:(E !=0)=true:=by simpa using h0
   have HK:=ZZ (HN.out h0);have b0:w2.cell? ⟨W.heap.size+1,0,none⟩=some (.slice none 0 0):=B2.out.cell 0;have b1:w2.cell? ⟨W.heap.size+1,1,none⟩=some (.slice none 0 0):=B2.out.cell 1;have fb0:=B2.out.free 0;have fb1:=B2.out.free 1;obtain⟨U,hU,oU,U1⟩:=Za1 B2.out (.slice none 0 0) (.slice none 0 0);have HU:=ZZ hU;have OU:=ZZ (O2.out.andThen oU fun i hi e=>by unfold isb at e;omega);clear hU oU d0 d1;go_wp2;rw[HU.out];have r0:U.cell? ⟨W.heap.size+1,0,none⟩=some (.slice none 0 0):=U1.cell 0;have r1:U.cell? ⟨W.heap.size+1,1,none⟩=some (.slice none 0 0):=U1.cell 1;refine bodyPost_ret (v:=.tuple #[.agg #[.slice none 0 0,.slice none 0 0],.int .i64 E]) (by simp[results,Tryz.results84,go_sem,r0,r1]) rfl ?_;exact⟨_,_,[],rfl,by rw[HK.out];exact Zed _,OU.out⟩
theorem Ze2 {g:Gr}:Zbw g=0↔Z9 g=true:=by
 unfold Zbw
 cases Z9 g <;> simp
theorem alike_e {a b:Gr} (ha:Zbw a=0) (hb:Zbw b=0):Zcr a b=ZbM (Zlr a) (Zlr b):=by
 unfold Zcr;rw[Ze2.1 ha,Ze2.1 hb];simp
theorem Zqh {a b:Gr} (h:Zbw a≠0∨Zbw b≠0):Zcr a b=false:=by
 apply Bool.eq_false_iff.2;intro e;obtain⟨h1,h2, -⟩:=Zpn.1 e;rcases h with h|h
 · exact h (Ze2.2 h1)
 · exact h (Ze2.2 h2)
theorem Zkq:Zvk 42:=by
 intro a b an ar bn br hs js B W hra hrb hB hfa hfb hna hta hnb htb;obtain⟨A,ca,rfl,hac,hcm⟩:=hra.nodes.form;obtain⟨A',cb,rfl,hbc,hcm'⟩:=hrb.nodes.form;obtain⟨Ar,cra,rfl,hrac,hrcm⟩:=hra.roots.form;obtain⟨Br,crb,rfl,hrbc,hrcm'⟩:=hrb.roots.form;obtain⟨V,hV,HVB⟩:=ZsP W (.slice A a.nd.length ca) (.slice Ar a.rt.length cra) (.slice A' b.nd.length cb) (.slice Br b.rt.length crb);have HVE:=ZZ hV;have HC1:=ZZ (Zfp a _ _ hs B V (hra.only HVB.out.1 hB) (Yi hB HVB.out.1.size) hfa hna hta);have HC2:=ZZ (fun (W':World) (o:Only nob W W')=>Zfp b _ _ js B W' (hrb.only o hB) (Yi hB o.size) hfb hnb htb);have HK:=ZZ (And.intro (canG_fit hfa hna) (canG_fit hfb hnb));have HE:=ZZ (And.intro (alike_e (a:=a) (b:=b)) (Zqh (a:=a) (b:=b)))
 obtain⟨q,hq⟩: ∃q,q=Zcr a b:=⟨_,rfl⟩
 obtain⟨E,hE⟩: ∃z,z=Zbw a:=⟨_,rfl⟩
 obtain⟨F,hF⟩: ∃z,z=Zbw b:=⟨_,rfl⟩
 obtain⟨K,hK⟩: ∃z,z=Zlr a:=⟨_,rfl⟩
 obtain⟨L,hL⟩: ∃z,z=Zlr b:=⟨_,rfl⟩
 rw[← hq, ← hE, ← hF, ← hK, ← hL] at HE;rw[← hE, ← hK] at HC1;rw[← hF, ← hL] at HC2;rw[← hK, ← hL] at HK;rw[← hq];have c0:V.cell? ⟨W.heap.size,0,none⟩=some (.slice A a.nd.length ca):=HVB.out.2.1.cell 0;have c1:V.cell? ⟨W.heap.size,1,none⟩=some (.slice Ar a.rt.length cra):=HVB.out.2.1.cell 1;clear hV hra hrb hB hfa hfb hna hta hnb htb hq hE hF hK hL
 go_enter Tryz.func42,Tryz.ntmps42
 go_upto_region 1 with fail
 rw[HVE.out]
 go_wp2_with fail
 go_at_call 84;refine HC1.out.mono ?_;rintro e w2 ⟨un,ur,ks,rfl,rd,o2⟩;have RD1:=ZZ rd;obtain⟨An,cn,rfl, -⟩:=rd.nodes.form;obtain⟨Ar2,cr2,rfl, -⟩:=rd.roots.form;obtain⟨X,hX,HBX⟩:=ZG w2 (.slice An K.nd.length cn) (.slice Ar2 K.rt.length cr2);have HX:=ZZ hX;have O2:=ZZ (HVB.out.1.trans (o2.trans HBX.out.1));have e0:X.cell? ⟨W.heap.size+1,0,none⟩=some (.slice A' b.nd.length cb):=(HVB.out.2.2.keep (o2.trans HBX.out.1) id).cell 0;have e1:X.cell? ⟨W.heap.size+1,1,none⟩=some (.slice Br b.rt.length crb):=(HVB.out.2.2.keep (o2.trans HBX.out.1) id).cell 1;clear rd o2 hX c0 c1
 go_upto_region 2 with fail
 rw[HX.out]
 go_wp2_with fail
 go_at_call 84;refine(HC2.out X O2.out).mono ?_;rintro e w3 ⟨vn,vr,ls,rfl,rd,o3⟩;have RD2:=ZZ rd;obtain⟨Bn,dn,rfl, -⟩:=rd.nodes.form;obtain⟨Br2,dr2,rfl, -⟩:=rd.roots.form;obtain⟨Y,hY,HBY⟩:=ZG w3 (.slice Bn L.nd.length dn) (.slice Br2 L.rt.length dr2);have HY:=ZZ hY;have O3:=ZZ (O2.out.trans (o3.trans HBY.out.1));have R1:=ZZ (RD1.out.only (HBX.out.1.trans (o3.trans HBY.out.1)) (Yj _));have R2:=ZZ (RD2.out.only HBY.out.1 (Yj _));have S1:=ZZ (HBX.out.1.trans (o3.trans HBY.out.1)).size;have S2:=ZZ HBY.out.1.size;have c0:Y.cell? ⟨w2.heap.size,0,none⟩=some (.slice An K.nd.length cn):=(HBX.out.2.keep (o3.trans HBY.out.1) id).cell 0;have c1:Y.cell? ⟨w2.heap.size,1,none⟩=some (.slice Ar2 K.rt.length cr2):=(HBX.out.2.keep (o3.trans HBY.out.1) id).cell 1;have d0:Y.cell? ⟨w3.heap.size,0,none⟩=some (.slice Bn L.nd.length dn):=HBY.out.2.cell 0;have d1:Y.cell? ⟨w3.heap.size,1,none⟩=some (.slice Br2 L.rt.length dr2):=HBY.out.2.cell 1;clear rd o3 hY e0 e1
 go_upto_region 3 with fail
 rw[HY.out];by_cases hE:E=0
 · subst hE
   by_cases hF:F=0
   · subst hF
     have HQ:=ZZ (HE.out.1 rfl rfl)
     go_wp2_with fail
     go_at_call 85;refine(Zmt K L _ _ _ _ _ _ _ _ Y R1.out R2.out S1.out S2.out HK.out.1 HK.out.2).mono ?_;rintro e w9 ⟨rfl,o9⟩;have O9:=ZZ (O3.out.trans o9);clear o9 c0 c1 d0 d1;rw[← HQ.out];go_wp2;go_ret;exact⟨rfl,O9.out⟩
   · have hb:(F==0)=false:=by simpa using hF
     have HQ:=ZZ (HE.out.2 (.inr hF));clear c0 c1 d0 d1 hF;go_wp2;go_ret;exact⟨Zb (by rw[HQ.out]),O3.out⟩
 · have hb:(E==0)=false:=by simpa using hE
   have HQ:=ZZ (HE.out.2 (.inl hE));clear c0 c1 d0 d1 hE;go_wp2;go_ret;exact⟨Zb (by rw[HQ.out]),O3.out⟩
end
end Go.Proofs.YteieocddfnlmdaaGreatDoor
