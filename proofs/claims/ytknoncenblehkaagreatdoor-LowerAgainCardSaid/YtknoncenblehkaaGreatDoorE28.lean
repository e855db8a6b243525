/- Package graph: where each place of an order stands, as a map The document's own answer for graphs: nodes in another order Chapter 16's example: its graphs, in plain words and in memo The law GraphTells: walked. Rows of the call's own that begin at any cell of their block The program's runs are the document's plans: what is looked Package reach: Breadth, Depth; the document's Flat; plans th Chapter 17's example comes to what the chapter says. (Printe What plans meet, counted. No program in it. -/
import Derived.Test.YtknoncenblehkaaGreatDoorE27
import Derived.Maps.OwnSet
import Derived.Laws.Small
import Derived.Test.YtknoncenblehkaaGreatDoorE25
import Derived.ArgAppend
import Derived.Carry
import Derived.Shelf.Sort.Plain
import Derived.Shelf.Slices.In.SortNone
import Derived.Lib.SortBridge
set_option maxRecDepth 100000
set_option maxHeartbeats 32000000
set_option linter.unusedSimpArgs false
set_option linter.unusedVariables false
namespace Go.Proofs.YtknoncenblehkaaGreatDoor
section
open Go.RowKit Go.Maps Go.ChangeMaps
theorem Zf5 {K:List Int} {p q:Int} (h:q∈K):plc (K++[p]) q=plc K q:=by
 rw[ZeJ h,ZeJ (List.mem_append_left _ h),List.idxOf_append,if_pos h]
theorem ZfQ {K:List Int} {p:Int} (h:p∉K):plc (K++[p]) p=K.length:=by
 rw[ZeJ (by simp),List.idxOf_append,if_neg h];simp
theorem ZfR {P:Program} (w:World) {ops:Array Oper} {rest:List Oper} {o:Oper} {a:Act} {Q:Exit→Act→World→Prop} (hg:o.guard=none) (m x v:Operand) (t:TypeId) (hop:o.op=Op.mapUpdate t m x v) (mv kv vv:Value)
 (hm:a.eval m=mv) (hx:a.eval x=kv) (hv:a.eval v=vv) (w':World) (hrun:(Instr.mapUpdate t mv kv vv).run P w=.ok () w') (hK:wpList P ops Q rest (a.put o.dst undef) w'):wpList P ops Q (o::rest) a w:=by
 refine wpList_plain hg fun K' hK'=>?_;unfold Oper.wp;simp[execOp,hop,hm,hx,hv,hrun,Result.andThen];exact hK' _ _ hK
end
section
open Go.RowKit Go.Lib
theorem ZgD:(Tryz.prog.info? 56).map (fun i=>(i.zero,i.size,i.bytes))=some (some (.agg #[.int .i64 0,.slice none 0 0,.slice none 0 0]),3,56):=by kernel_rfl
theorem Zjg (k:Int) (A1 A2:Option Addr) (n1 c1 n2 c2:Nat): ∀q∈[Value.int .i64 k,.slice A1 n1 c1,.slice A2 n2 c2],q.oneCell'=true:=by
 intro v hv;simp at hv
 rcases hv with rfl|rfl|rfl <;> rfl
theorem ZhG: ∀(l:List Nd) (hs:List (Value×Value)) (d:Nd) (h:Value×Value),hs.length=l.length→ndc (l++[d]) (hs++[h])=ndc l hs++[.int .i64 d.kd,h.1,h.2]
 |[],[],_,_,_=>rfl
 |[],_::_,_,_,e=>by cases e
 |_::_,[],_,_,e=>by cases e
 |x::l,y::hs,d,h,e=>by
  have:=ZhG l hs d h (by simpa using e)
  simp only[List.cons_append,ndc,this]
theorem ZbN {w:World} {b1 b2:Nat} {E1 E2:TypeId} {s1 s2 n1 n2:Nat} {v1 v2:Value} {x1 x2:List Value} (h1:w.ownsRow b1 E1 s1 v1 n1 x1) (h2:w.ownsRow b2 E2 s2 v2 n2 x2) (hE:E1≠E2): ∀k,v1.ownBlock=some k→ ¬v2.ownBlock=some k:=by
 intro k e1 e2
 rcases h1.2 with⟨rfl, -⟩|⟨g1,c1,cur1,rfl,_,hg1, -⟩
 · cases e1
 · rcases h2.2 with⟨rfl, -⟩|⟨g2,c2,cur2,rfl,_,hg2, -⟩
   · cases e2
   · have h1:g1=k:=Yp e1
     have h2:g2=k:=Yp e2;rw[h1] at hg1;rw[h2,hg1] at hg2
     have:=Yp hg2
     injection this with _ e
     exact hE e
theorem blk_own_ne16 {w:World} {b2 g:Nat} {t E2:TypeId} {cs:Array Value} {s2 n2:Nat} {v2:Value} {x2:List Value} (h1:Blk w g t cs) (h2:w.ownsRow b2 E2 s2 v2 n2 x2) (hE:t≠E2): ¬v2.ownBlock=some g:=by
 intro e2
 rcases h2.2 with⟨rfl, -⟩|⟨g2,c2,cur2,rfl,_,hg2, -⟩
 · cases e2
 · have h2:g2=g:=Yp e2
   unfold Blk at h1;rw[h2,h1] at hg2
   have:=Yp hg2
   injection this with _ e
   exact hE e
theorem Zao {w:World} {base:Nat} {E:TypeId} {size n c b:Nat} {xs:List Value} (h:w.ownsRow base E size (.slice (some ⟨b,0,none⟩) n c) n xs) (j:Nat) (hj:j<n * size) (u:Value):
 (w.setCell ⟨b,j,none⟩ u).ownsRow base E size (.slice (some ⟨b,0,none⟩) n c) n (xs.set j u):=by
 obtain⟨h1,h2⟩:=h;refine⟨by rw[List.length_set];exact h1,?_⟩
 rcases h2 with⟨e,rfl⟩|⟨g,cap,cur,e,hb,hg,h3,h4,h5,h6⟩
 · cases e
 · obtain⟨rfl,rfl⟩:b=g∧c=cap:=by simpa using e
   have hput:Blk (w.setCell ⟨b,j,none⟩ u) b E (cur.setIfInBounds j u):=Blk.put (t:=E) hg j u;refine .inr ⟨b,c,cur.setIfInBounds j u,rfl,hb,hput,h3,h4,by simpa using h5,?_⟩;rw[Array.toList_setIfInBounds, ← h6,List.take_set]
structure NdO (w:World) (base:Nat) (d:Nd) (h:Value×Value):Prop where
 fs:w.ownsRow base 59 2 h.1 d.fs.length (spc d.fs)
 rs:w.ownsRow base 57 1 h.2 d.rs.length (u64s d.rs)
def RwO (w:World) (base:Nat) (l:List Nd) (hs:List (Value×Value)):Prop:= ∀(i:Nat) d h,l[i]? =some d→hs[i]? =some h→NdO w base d h
section
variable {w w':World} {base base':Nat} {d:Nd} {h:Value×Value} {l:List Nd} {hs:List (Value×Value)} {F:Nat→Prop}
theorem NdO.only (H:NdO w base d h) (o:Only F w w') (h1: ∀k,h.1.ownBlock=some k→ ¬F k) (h2: ∀k,h.2.ownBlock=some k→ ¬F k):NdO w' base d h:=⟨Zb H.fs o h1,Zb H.rs o h2⟩
theorem NdO.nob (H:NdO w base d h) (o:Only nob w w'):NdO w' base d h:=H.only o (fun _ _=>id) fun _ _=>id
theorem RwO.nob (H:RwO w base l hs) (o:Only nob w w'):RwO w' base l hs:=fun i d h hd hh=>(H i d h hd hh).nob o
theorem NdO.rd (H:NdO w base d h):NdR w w.heap.size d h:=⟨Sl.of_own H.fs H.fs.1,Sl.of_own H.rs H.rs.1⟩
theorem RwO.snoc (H:RwO w base l hs) (e:hs.length=l.length) (H2:NdO w base d h):RwO w base (l++[d]) (hs++[h]):=by
 intro i d' h' hd hh;rcases Yq i l.length with hi|hi
 · rw[List.getElem?_append_left hi] at hd
   rw[List.getElem?_append_left (by omega)] at hh;exact H i d' h' hd hh
 · have hi2:i=l.length:=by
    have:=(Yk.1 hd).1
    simp at this;omega
   rw[hi2,List.getElem?_append_right (Yj _),Nat.sub_self] at hd;rw[hi2,List.getElem?_append_right (by omega),e,Nat.sub_self] at hh
   obtain rfl:d=d':=by simpa using hd
   obtain rfl:h=h':=by simpa using hh
   exact H2
end
end
section
open Go.RowKit Go.Lib
theorem Zcb {w:World} {base:Nat} {E:TypeId} {size n k:Nat} {v:Value} {xs:List Value} (h:w.ownsRow base E size v n xs) (e:v.ownBlock=some k): ∃cs,Blk w k E cs:=by
 rcases h.2 with⟨rfl, -⟩|⟨g,cap,cur,rfl,_,hg, -⟩
 · cases e
 · obtain rfl:g=k:=Yp e
   exact⟨cur,hg⟩
theorem Zoq (w:World):RdG w w.heap.size ⟨[],[]⟩ (.slice none 0 0) (.slice none 0 0) []:=⟨rfl,Sl.nil_,(fun i d h hd _=>by simp at hd),Sl.nil_⟩
theorem ZmH {g:Gr} (h:GrFit g) {o:List Int} (ho: ∀x∈o,0≤x∧x<(g.nd.length:Int)):GrFit ⟨ZbB g o,g.rt⟩:=
 ⟨fun d hd=>h.kd d (ZcN ho hd),fun d hd=>h.fs d (ZcN ho hd),fun d hd=>h.rs d (ZcN ho hd),h.rt⟩
end
section
open Go.RowKit Go.Lib Go.Shelf
attribute [local go_sem] Oper.semAt_some
end
section
open Go.RowKit Go.Lib
theorem Zes (l:List Nat) (k y:Nat):(u64s l).set k (.int .u64 (y:Nat))=u64s (l.set k y):=by
 unfold u64s;rw[List.map_set]
section
variable {w0 W:World} {base:Nat} {g:Gr} {vn vr:Value} {hs:List (Value×Value)}
end
end
section
open Go.RowKit Go.Lib
theorem Zdk {W:World} {b:Nat} {a0 a1:Value} (B1:Blk W b 27 #[a0,a1]) (x0 x1:Value): ∃U,((W.setCell ⟨b,0,none⟩ x0).setCell ⟨b,1,none⟩ x1)=U∧Only (isb b) W U∧Blk U b 27 #[x0,x1]:=
 ⟨_,rfl,(Zc _ _ _ _).trans (Zc _ _ _ _),by simpa using(B1.put 0 x0).put 1 x1⟩
theorem Zjd (w:World) (cs:Array Value) (l:List Int) (h:cs.toList=i64s l) (hn:cs.size=l.length) (hm:l.length≤1000): ∃W,w.alloc (.cells cs 3)=W∧Only nob w W∧Sl W W.heap.size 1 (.slice (some ⟨w.heap.size,0,none⟩) l.length l.length) l.length (i64s l):=by
 refine⟨_,rfl,(Only.refl nob w).alloc _,?_⟩
 have:=Sl.of_blk (size:=1) (n:=l.length) (c:=l.length) (Blk.new w 3 cs) (by omega) (Yj _) (by unfold maxLen;omega)
 rw[h] at this;exact this
theorem Zco (w:World) (vn vr:Value): ∃W,w.alloc (.cells #[vn,vr] 27)=W∧Hid (Only nob w W∧Blk W w.heap.size 27 #[vn,vr]):=⟨_,rfl,ZZ ⟨(Only.refl nob w).alloc _,Blk.new w _ _⟩⟩
def ZpO (g:Gr) (w:World) (e:Ending) (w':World):Prop:= ∃b:Bool,e=.returned (.bool b)∧(b=false→g.nd.length≤1000∧g.rt.length≤1000)∧Only nob w w'
def Zo0 (f:FuncId):Prop:= ∀(g:Gr) (vn vr:Value) (hs:List (Value×Value)) (B:Nat) (w:World),RdG w B g vn vr hs→B≤w.heap.size→
 Calls Tryz.prog f #[.agg #[vn,vr]] w (ZpO g w)
theorem ZpY (n:Nat): ∃a:Nat,a≤5000∧(if(5000:Int)<(n:Int) then(5000:Int) else(n:Int))=(a:Int):=by
 by_cases h:(5000:Int)<n
 · exact⟨5000,Yj _,by rw[if_pos h];rfl⟩
 · exact⟨n,by omega,by rw[if_neg h]⟩
theorem ZgC:Zo0 6:=by
 intro g vn vr hs B w h hB;have HR:=ZZ h;obtain⟨A,c,rfl,hac,hcm⟩:=h.nodes.form;obtain⟨Ar,cr,rfl,harc,hcrm⟩:=h.roots.form;unfold maxLen at hcm hcrm;obtain⟨W,hW,HB⟩:=Zj2 w (.slice A g.nd.length c) (.slice Ar g.rt.length cr);have HW:=ZZ hW
 obtain⟨p,hp⟩: ∃p,p=w.heap.size:=⟨_,rfl⟩
 have HP:=ZZ hp;rw[← hp] at HB;have c0:=HB.out.2.2.1;have c1:=HB.out.2.2.2;clear hW hp h;by_cases h60:(60:Int)<(g.nd.length:Int)
 · go_enter Tryz.func6,Tryz.ntmps6
   go_upto_region 1 with fail
   rw[HW.out, ← HP.out];go_wp2;go_ret;exact⟨_,Za rfl,fun h=>(by cases h),HB.out.1⟩
 · by_cases h100:(100:Int)<(g.rt.length:Int)
   · go_enter Tryz.func6,Tryz.ntmps6
     go_upto_region 1 with fail
     rw[HW.out, ← HP.out];go_wp2;go_ret;exact⟨_,Za rfl,fun h=>(by cases h),HB.out.1⟩
   · have HS:=ZZ (show g.nd.length≤1000∧g.rt.length≤1000 by omega)
     have hl60:g.nd.length≤1000:=HS.out.1
     go_enter Tryz.func6,Tryz.ntmps6
     go_upto_region 1 with fail
     rw[HW.out, ← HP.out]
     go_wp2_with fail
     clear h60 h100 c0 c1
     go_loopw [3,4] (fun a i wr=> ∃k m:Nat,k≤g.nd.length∧m≤k * 10000∧i=.int .i64 k∧a=.int .i64 m∧Hid (Only nob W wr)) (fun _ i _=>g.nd.length - (intOf i).toNat)
     case atStart=>exact⟨0,0,Yu _,Yu _,rfl,rfl,ZZ (Only.refl _ _)⟩
     case round=>
      obtain⟨k,m,hk,hm,rfl,rfl,HO⟩:=hrel;have c0:=HO.out.keeps HB.out.2.2.1;by_cases hlt:k<g.nd.length
      · obtain⟨d,hd⟩: ∃x,g.nd[k]? =some x:=⟨_,Ya hlt⟩
        obtain⟨bb,o,fv,rv,hA,hbb,hh',g0,g1,g2,hnd⟩:=HR.out.at_ ((HB.out.1.trans HO.out).below hB fun _ h=>h.elim) hd;obtain⟨Af,cf,hfv,hafc,hcfm⟩:=hnd.fields.form;obtain⟨Arw,crw,hrv,harw,hcrw⟩:=hnd.raws.form;simp only at hfv hrv;subst hfv hrv
        obtain⟨rfl, -⟩:A=some ⟨bb,o,none⟩∧True:=by simpa using hA
        obtain⟨a1,ha1,ea1⟩:=ZpY d.fs.length;obtain⟨a2,ha2,ea2⟩:=ZpY d.rs.length;clear hd hh' hnd hA g0 hafc harw;go_wp2
        go_quiet (fail)
        go_wp2
        go_roundw
        case rel=>exact⟨k+1,m+(a1+a2),by omega,by omega,by go_num,by go_num,ZZ (HO.out.drewN _)⟩
        case measure=>simp[intOf];omega
      · obtain rfl:k=g.nd.length:=by omega
        go_wp2;go_ret;exact⟨_,Za rfl,fun _=>HS.out,HB.out.1.trans HO.out⟩
theorem ZeZ {f:FuncId} {args:Array Value} {w:World} (h:Calls Tryz.prog f args w fun e w'=>e=.returned (.bool true)∧Only nob w w'):Calls Tryz.prog f args w fun e w'=>e=.returned (.bool true)∧Below w.heap.size w w':=
 h.mono fun e w' hh=>⟨hh.1,hh.2.whole⟩
theorem ZfE {o:List Int} {l:List Sp} (h:ZmF l) (hl:o.length≤1000000):ZmF (Z5 o l):=by
 intro v hv;obtain⟨x,hx,rfl⟩:=List.mem_map.1 hv;have hb:=h x hx;unfold Za4
 split
 · refine⟨by omega,?_⟩
   by_cases hm:x.2∈o
   · have h1:o.idxOf x.2<o.length:=List.idxOf_lt_length_iff.2 hm
     show -9223372036854775808≤plc o x.2∧plc o x.2≤9223372036854775807;rw[ZeJ hm];omega
   · show -9223372036854775808≤plc o x.2∧plc o x.2≤9223372036854775807
     rw[ZgZ hm];omega
 · exact hb
theorem Zp4 {g:Gr} {o:List Int} (h:GrFit g) (hl:o.length≤1000000):GrFit (rnG g o):=by
 unfold rnG
 split
 · rename_i h0
   have hp:=ZmH h (ZG.1 (ZbV.1 h0).ord).1;refine⟨fun d hd=>?_,fun d hd=>?_,fun d hd=>?_,ZfE h.rt hl⟩
   · obtain⟨x,hx,rfl⟩:=List.mem_map.1 hd;exact hp.kd x hx
   · obtain⟨x,hx,rfl⟩:=List.mem_map.1 hd;exact ZfE (hp.fs x hx) hl
   · obtain⟨x,hx,rfl⟩:=List.mem_map.1 hd;exact hp.rs x hx
 · exact⟨fun d hd=>by simp at hd,fun d hd=>by simp at hd,fun d hd=>by simp at hd,fun v hv=>by simp at hv⟩
end
section
open Go.RowKit
section
variable {w w':World} {base:Nat} {E:TypeId} {v:Value} {n:Nat} {xs:List Value} {F:Nat→Prop}
end
section
variable {P:Program} (w:World)
end
section
variable {w w':World} {base:Nat} {E:TypeId} {V:Int→Value} {L:Int→List Int} {F:Nat→Prop}
end
end
section
open Go.RowKit Go.Lib
structure QSt where
 s:PSt
 ah:List Int
 k:Nat
 wt:Int→List Int
 bg:List Int
 last:Int
 tp:Int
 pt:Nat
section
variable {W w' w'':World} {b mb base:Nat} {vn vr:Value} {lim:Int} {n:Nat} {V V' V'':Int→Value} {M M':List Int} {q:QSt} {F:Nat→Prop}
end
section
variable {W w1 w':World} {b mb base:Nat} {vn vr:Value} {lim:Int} {n j:Nat} {V V':Int→Value} {M:List Int} {q q':QSt} {i:Int}
end
end
section
open Go.RowKit Go.Lib
end
section
open Go.RowKit
def q0:QSt:=⟨.none,[],0,fun _=>[],[],0,0,0⟩
end
section
open Go.RowKit Go.Lib
section
variable {W w':World} {b mb tb mp base B:Nat} {g:Gr} {vn vr:Value} {hs:List (Value×Value)} {lim blk:Int}
end
end
section
open Go.RowKit Go.Lib
theorem Zg6 {g:Gr} (hg:ZP g=true) (x:Int):ndSz (ZcK g x)≤8193:=by
 by_cases hlt:x.toNat<g.nd.length
 · have hm:ZcK g x∈g.nd:=by
    unfold ZcK;rw[Yn,Ya hlt];exact List.getElem_mem hlt
   obtain⟨-,h2,h3, -⟩:=ZS.1 ((Zt.1 hg).1 _ hm);unfold ndSz ZiX;rw[Zgf _ (by omega) (by omega)];omega
 · have:ZcK g x=noNd:=by
    unfold ZcK;rw[Yn,List.getElem?_eq_none (by omega)];rfl
   rw[this];unfold ndSz ZiX noNd;rw[Zgf _ (by simp) (by simp)];simp
section
variable {g:Gr} {l1 l2:Int}
end
def Zp9 (g:Gr):Int:=if ZP g=true then 0 else 4
def ZaG (g:Gr) (order:Int):List Int:=if ZP g=true then(Zed g 1000000 order 1).small else[]
end
section
open Go.RowKit Go.Lib
theorem Zkn {g:Gr} (hg:ZP g=true) (lim order block:Int):Wf g (Zed g lim order block):=by
 obtain⟨h1,h2⟩:=ZcR lim order hg;exact(ZfV (block:=block) hg (g.nd.length+1) _ h1 h2 (by omega)).1
abbrev lv (b n:Nat):Value:=.slice (some ⟨b,0,none⟩) n n
theorem Zbz {g:Gr} (hg:ZP g=true) {lim:Int} (hl:8193≤lim): ∀(l:List Sp) (s:PSt),s.large=[]→(Zdx g lim l s).large=[]
 |[],s,h=>h
 |v::l,s,h=>by
  show(Zdx g lim l (Zah g lim v s)).large=[];refine Zbz hg hl l _ ?_;have hs:=Zg6 hg v.2;unfold Zah;rw[if_neg (show ¬lim<ndSz (ZcK g v.2) by omega)];by_cases hn:Zac v s=true
  · rw[if_pos hn];exact h
  · rw[if_neg hn];exact h
theorem ZhD {g:Gr} (hg:ZP g=true) {lim:Int} (hl:8193≤lim) (b:Int): ∀(n:Nat) (s:PSt),s.large=[]→(Zeb g lim 0 b n s).large=[]
 |0,s,h=>h
 |n+1,s,h=>by
  rw[Zeb]
  cases hs:ZbR g lim 0 b s with
  |none=>exact h
  |some s'=>
   refine ZhD hg hl b n s' ?_;unfold ZbR at hs
   split at hs
   · obtain rfl:=Yp hs
     unfold Zad;rw[if_neg (by decide)];exact Zbz hg hl _ _ h
   · split at hs
     · cases hs
     · obtain rfl:=Yp hs
       unfold Zad;rw[if_neg (by decide)];exact Zbz hg hl _ _ h
theorem Zjb {g:Gr} (hg:ZP g=true):(Zed g 1000000 0 1).large=[]:=by
 unfold Zed;refine ZhD hg (by decide) 1 _ _ ?_;unfold Zad;rw[if_neg (by decide)];exact Zbz hg (by decide) _ _ rfl
end
end Go.Proofs.YtknoncenblehkaaGreatDoor
