/- Package graph: where each place of an order stands, as a map Chapter 16's example: its graphs, in plain words and in memo The law GraphTells: walked. Rows of the call's own that begin at any cell of their block The program's runs are the document's plans: what is looked A heap as a graph, in plain words: it may be, it has all wor A graph as a heap, in plain words: words that are written, a -/
import Derived.Test.YtknoncenblehkaaGreatDoorG31
import Derived.Maps.OwnSet
import Derived.OrdersHeld
import Derived.Laws.Small
import Derived.ArgAppend
import Derived.Carry
import Derived.Shelf.Sort.Plain
import Derived.Shelf.Slices.In.SortNone
import Derived.Lib.SortBridge
set_option maxRecDepth 100000
set_option maxHeartbeats 32000000
set_option linter.unusedSimpArgs false
set_option linter.unusedVariables false
namespace Go.Proofs.YtknoncenblehkaaGreatDoor
section
open Go.RowKit Go.Maps Go.ChangeMaps
end
section
open Go.RowKit Go.Lib
theorem Zan {w:World} {base:Nat} {E:TypeId} {size n c b:Nat} {xs:List Value} (h:w.ownsRow base E size (.slice (some ⟨b,0,none⟩) n c) n xs) (j:Nat) (hj:j<n * size) (u:Value):
 (w.setCell ⟨b,j,none⟩ u).ownsRow base E size (.slice (some ⟨b,0,none⟩) n c) n (xs.set j u):=by
 obtain⟨h1,h2⟩:=h;refine⟨by rw[List.length_set];exact h1,?_⟩
 rcases h2 with⟨e,rfl⟩|⟨g,cap,cur,e,hb,hg,h3,h4,h5,h6⟩
 · cases e
 · obtain⟨rfl,rfl⟩:b=g∧c=cap:=by simpa using e
   have hput:Blk (w.setCell ⟨b,j,none⟩ u) b E (cur.setIfInBounds j u):=Blk.put (t:=E) hg j u;refine .inr ⟨b,c,cur.setIfInBounds j u,rfl,hb,hput,h3,h4,by simpa using h5,?_⟩;rw[Array.toList_setIfInBounds, ← h6,List.take_set]
section
variable {w w':World} {base base':Nat} {d:Nd} {h:Value×Value} {l:List Nd} {hs:List (Value×Value)} {F:Nat→Prop}
end
end
section
open Go.RowKit Go.Lib
theorem ZaZ {w:World} {base:Nat} {E:TypeId} {size n k:Nat} {v:Value} {xs:List Value} (h:w.ownsRow base E size v n xs) (e:v.ownBlock=some k): ∃cs,Blk w k E cs:=by
 rcases h.2 with⟨rfl, -⟩|⟨g,cap,cur,rfl,_,hg, -⟩
 · cases e
 · obtain rfl:g=k:=Yo e
   exact⟨cur,hg⟩
end
section
open Go.RowKit Go.Lib Go.Shelf
attribute [local go_sem] Oper.semAt_some
end
section
open Go.RowKit Go.Lib
theorem Za1 (l:List Nat) (k y:Nat):(u64s l).set k (.int .u64 (y:Nat))=u64s (l.set k y):=by
 unfold u64s;rw[List.map_set]
section
variable {w0 W:World} {base:Nat} {g:Gr} {vn vr:Value} {hs:List (Value×Value)}
end
end
section
open Go.RowKit Go.Lib
theorem Ziy (w:World) (cs:Array Value) (l:List Int) (h:cs.toList=i64s l) (hn:cs.size=l.length) (hm:l.length≤1000): ∃W,w.alloc (.cells cs 3)=W∧Only nob w W∧Sl W W.heap.size 1 (.slice (some ⟨w.heap.size,0,none⟩) l.length l.length) l.length (i64s l):=by
 refine⟨_,rfl,(Only.refl nob w).alloc _,?_⟩
 have:=Sl.of_blk (size:=1) (n:=l.length) (c:=l.length) (Blk.new w 3 cs) (by omega) (Yi _) (by unfold maxLen;omega)
 rw[h] at this;exact this
theorem Zih (w:World) (vn vr:Value): ∃W,w.alloc (.cells #[vn,vr] 27)=W∧Hid (Only nob w W∧Blk W w.heap.size 27 #[vn,vr]):=⟨_,rfl,ZZ ⟨(Only.refl nob w).alloc _,Blk.new w _ _⟩⟩
def Zpe (g:Gr) (w:World) (e:Ending) (w':World):Prop:= ∃b:Bool,e=.returned (.bool b)∧(b=false→g.nd.length≤1000∧g.rt.length≤1000)∧Only nob w w'
def Znj (f:FuncId):Prop:= ∀(g:Gr) (vn vr:Value) (hs:List (Value×Value)) (B:Nat) (w:World),RdG w B g vn vr hs→B≤w.heap.size→
 Calls Tryz.prog f #[.agg #[vn,vr]] w (Zpe g w)
theorem ZoV (n:Nat): ∃a:Nat,a≤5000∧(if(5000:Int)<(n:Int) then(5000:Int) else(n:Int))=(a:Int):=by
 by_cases h:(5000:Int)<n
 · exact⟨5000,Yi _,by rw[if_pos h];rfl⟩
 · exact⟨n,by omega,by rw[if_neg h]⟩
theorem Zgf:Znj 6:=by
 intro g vn vr hs B w h hB;have HR:=ZZ h;obtain⟨A,c,rfl,hac,hcm⟩:=h.nodes.form;obtain⟨Ar,cr,rfl,harc,hcrm⟩:=h.roots.form;unfold maxLen at hcm hcrm;obtain⟨W,hW,HB⟩:=Zdr w (.slice A g.nd.length c) (.slice Ar g.rt.length cr);have HW:=ZZ hW
 obtain⟨p,hp⟩: ∃p,p=w.heap.size:=⟨_,rfl⟩
 have HP:=ZZ hp;rw[← hp] at HB;have c0:=HB.out.2.2.1;have c1:=HB.out.2.2.2;clear hW hp h;by_cases h60:(60:Int)<(g.nd.length:Int)
 · go_enter Tryz.func6,Tryz.ntmps6
   go_upto_region 1 with fail
   rw[HW.out, ← HP.out];go_wp2;go_ret;exact⟨_,Za rfl,fun h=>(by cases h),HB.out.1⟩
 · by_cases h100:(100:Int)<(g.rt.length:Int)
   · go_enter Tryz.func6,Tryz.ntmps6
     go_upto_region 1 with fail
     rw[HW.out, ← HP.out];go_wp2;go_ret;exact⟨_,Za rfl,fun h=>(by cases h),HB.out.1⟩
   · have HS:=ZZ (show g.nd.length≤1000∧g.rt.length≤1000 by omega)
     have hl60:g.nd.length≤1000:=HS.out.1
     go_enter Tryz.func6,Tryz.ntmps6
     go_upto_region 1 with fail
     rw[HW.out, ← HP.out]
     go_wp2_with fail
     clear h60 h100 c0 c1
     go_loopw [3,4] (fun a i wr=> ∃k m:Nat,k≤g.nd.length∧m≤k * 10000∧i=.int .i64 k∧a=.int .i64 m∧Hid (Only nob W wr)) (fun _ i _=>g.nd.length - (intOf i).toNat)
     case atStart=>exact⟨0,0,Yt _,Yt _,rfl,rfl,ZZ (Only.refl _ _)⟩
     case round=>
      obtain⟨k,m,hk,hm,rfl,rfl,HO⟩:=hrel;have c0:=HO.out.keeps HB.out.2.2.1;by_cases hlt:k<g.nd.length
      · obtain⟨d,hd⟩: ∃x,g.nd[k]? =some x:=⟨_,Ya hlt⟩
        obtain⟨bb,o,fv,rv,hA,hbb,hh',g0,g1,g2,hnd⟩:=HR.out.at_ ((HB.out.1.trans HO.out).below hB fun _ h=>h.elim) hd;obtain⟨Af,cf,hfv,hafc,hcfm⟩:=hnd.fields.form;obtain⟨Arw,crw,hrv,harw,hcrw⟩:=hnd.raws.form;simp only at hfv hrv;subst hfv hrv
        obtain⟨rfl, -⟩:A=some ⟨bb,o,none⟩∧True:=by simpa using hA
        obtain⟨a1,ha1,ea1⟩:=ZoV d.fs.length;obtain⟨a2,ha2,ea2⟩:=ZoV d.rs.length;clear hd hh' hnd hA g0 hafc harw;go_wp2
        go_quiet (fail)
        go_wp2
        go_roundw
        case rel=>exact⟨k+1,m+(a1+a2),by omega,by omega,by go_num,by go_num,ZZ (HO.out.drewN _)⟩
        case measure=>simp[intOf];omega
      · obtain rfl:k=g.nd.length:=by omega
        go_wp2;go_ret;exact⟨_,Za rfl,fun _=>HS.out,HB.out.1.trans HO.out⟩
theorem Zfc {f:FuncId} {args:Array Value} {w:World} (h:Calls Tryz.prog f args w fun e w'=>e=.returned (.bool true)∧Only nob w w'):Calls Tryz.prog f args w fun e w'=>e=.returned (.bool true)∧Below w.heap.size w w':=
 h.mono fun e w' hh=>⟨hh.1,hh.2.whole⟩
end
section
open Go.RowKit
section
variable {w w':World} {base:Nat} {E:TypeId} {v:Value} {n:Nat} {xs:List Value} {F:Nat→Prop}
end
section
variable {P:Program} (w:World)
end
section
variable {w w':World} {base:Nat} {E:TypeId} {V:Int→Value} {L:Int→List Int} {F:Nat→Prop}
end
end
section
open Go.RowKit Go.Lib
structure QSt where
 s:PSt
 ah:List Int
 k:Nat
 wt:Int→List Int
 bg:List Int
 last:Int
 tp:Int
 pt:Nat
section
variable {W w' w'':World} {b mb base:Nat} {vn vr:Value} {lim:Int} {n:Nat} {V V' V'':Int→Value} {M M':List Int} {q:QSt} {F:Nat→Prop}
end
section
variable {W w1 w':World} {b mb base:Nat} {vn vr:Value} {lim:Int} {n j:Nat} {V V':Int→Value} {M:List Int} {q q':QSt} {i:Int}
end
end
section
open Go.RowKit Go.Lib
end
section
open Go.RowKit
def q0:QSt:=⟨.none,[],0,fun _=>[],[],0,0,0⟩
end
section
open Go.RowKit Go.Lib
section
variable {W w':World} {b mb tb mp base B:Nat} {g:Gr} {vn vr:Value} {hs:List (Value×Value)} {lim blk:Int}
end
end
section
open Go.RowKit Go.Lib
end
section
open Go.RowKit
def valL (all:List Int) (x:Nat):Sp:=if dK x=2∧dX x∈all then(2,plc all (dX x)) else(dK x,dX x)
def ZpS (all:List Int) (l:List Nat) (p:Int):List Sp:=(List.range (ohF l p).toNat).map fun k:Nat=>valL all (wd l (p+1+(k:Nat)).toNat)
def ZpT (l:List Nat) (p:Int):List Nat:=(List.range (ohR l p).toNat).map fun k:Nat=>wd l (p+1+ohF l p+(k:Nat)).toNat
def liN (all:List Int) (l:List Nat) (p:Int):Nd:=⟨ohK l p,ZpS all l p,ZpT l p⟩
def ZnX (sl:List Slt):List Slt:=sl.filter (·.1)
def Zos (all:List Int) (sl:List Slt):List Sp:=(ZnX sl).map fun t=>valL all t.2.2
noncomputable def liG (s:St):Gr:=if ZbW s=0 then⟨s.objs.map (liN s.objs s.ws),Zos s.objs s.sl⟩ else⟨[],[]⟩
theorem ZnJ {s:St} (h:ZbW s=0):liG s=⟨s.objs.map (liN s.objs s.ws),Zos s.objs s.sl⟩:=if_pos h
theorem ZjM {l:List Int} {z:Int}:ZaU l z=true↔z∈l:=by
 unfold ZaU;simp
section
variable {s:St}
end
end
section
open Go.RowKit
def ZaS (l:List Nat) (p:Nat) (r:List Nat):List Nat:=l.take p++(r++l.drop (p+r.length))
theorem ZaM {l:List Nat} {p:Nat} {r:List Nat} (h:p+r.length≤l.length):(ZaS l p r).length=l.length:=by
 unfold ZaS;simp only[Yr,List.length_take,List.length_drop];omega
theorem ZcE {l:List Nat} {p:Nat} {r:List Nat} (h:p+r.length≤l.length) (x:Nat):wd (ZaS l p r) x=if p≤x∧x<p+r.length then wd r (x - p) else wd l x:=by
 have ht:(l.take p).length=p:=by rw[List.length_take];omega
 unfold ZaS wd;simp only[Ym]
 split
 · rename_i hx
   rw[List.getElem?_append_right (by omega),List.getElem?_append_left (by omega),ht]
 · rename_i hx
   by_cases h1:x<p
   · rw[List.getElem?_append_left (by omega),List.getElem?_take,if_pos h1]
   · rw[List.getElem?_append_right (by omega),List.getElem?_append_right (by omega),List.getElem?_drop,ht]
     congr 2
     omega
def Zav:List (Nat×List Nat)→List Nat→List Nat
 |[],l=>l
 |x::ps,l=>Zav ps (ZaS l x.1 x.2)
def InW (n:Nat) (ps:List (Nat×List Nat)):Prop:= ∀x∈ps,x.1+x.2.length≤n
def ZjC (ps:List (Nat×List Nat)):Prop:=ps.Pairwise fun x y=>x.1+x.2.length≤y.1∨y.1+y.2.length≤x.1
theorem ZdW: ∀(ps:List (Nat×List Nat)) (l:List Nat),InW l.length ps→(Zav ps l).length=l.length
 |[],_,_=>rfl
 |x::ps,l,h=>by
  have e:=ZaM (h x (List.mem_cons_self ..));show(Zav ps _).length=_;rw[ZdW ps _ (fun y hy=>by rw[e];exact h y (List.mem_cons_of_mem _ hy)),e]
theorem ZeR (y:Nat): ∀(ps:List (Nat×List Nat)) (l:List Nat),InW l.length ps→ZjC ps→
 (∀x∈ps,x.1≤y→y<x.1+x.2.length→wd (Zav ps l) y=wd x.2 (y - x.1))∧((∀x∈ps, ¬(x.1≤y∧y<x.1+x.2.length))→wd (Zav ps l) y=wd l y)
 |[],l,_,_=>⟨(fun _ h=>by cases h),fun _=>rfl⟩
 |z::ps,l,h,ha=>by
  have hz:=h z (List.mem_cons_self ..);have e:=ZaM hz;obtain⟨a1,a2⟩:=List.pairwise_cons.1 ha;obtain⟨i1,i2⟩:=ZeR y ps (ZaS l z.1 z.2) (fun x hx=>by rw[e];exact h x (List.mem_cons_of_mem _ hx)) a2;refine⟨fun x hx h1 h2=>?_,fun hn=>?_⟩
  · rcases List.mem_cons.1 hx with rfl|hx
    · show wd (Zav ps _) y=_
      rw[i2 (fun w hw hh=>by have:=a1 w hw;omega),ZcE hz,if_pos ⟨h1,h2⟩]
    · exact i1 x hx h1 h2
  · show wd (Zav ps _) y=_
    rw[i2 (fun w hw=>hn w (List.mem_cons_of_mem _ hw)),ZcE hz,if_neg (hn z (List.mem_cons_self ..))]
theorem ZmC {l m:List Nat} (hl:l.length=m.length) (h: ∀x,x<l.length→wd l x=wd m x):l=m:=by
 apply List.ext_getElem hl;intro i h1 h2
 have:=h i h1
 unfold wd at this;rw[Ym,Ym,Ya h1,Ya h2] at this;exact this
theorem ZnH {k x:Int} (h:Zat k x=true):dK (ZcD k x)=k∧dX (ZcD k x)=x∧dE (ZcD k x)=0∧0≤ZcD k x∧ZcD k x<18446744073709551616:=by
 rw[Zcs h]
 rcases ZfJ h with⟨rfl,rfl⟩|⟨rfl,h1,h2⟩|⟨rfl,h1,h2⟩
 · decide
 · have hb:0≤(4 * x+1) % 18446744073709551616∧(4 * x+1) % 18446744073709551616<18446744073709551616:=by omega
   have ht:ZfY 1=1:=rfl;rw[ht]
   have hm:(4 * x+1) % 18446744073709551616 % 4=1:=by omega
   by_cases h0:0≤x
   · obtain⟨e1,e2,e3⟩:=Zp3 hm (by omega)
     exact⟨e1,by rw[e2];omega,e3,hb.1,hb.2⟩
   · obtain⟨e1,e2,e3⟩:=Zo4 hm (by omega)
     exact⟨e1,by rw[e2];omega,e3,hb.1,hb.2⟩
 · have ht:ZfY 2=2:=rfl
   rw[ht]
   have hm:(4 * x+2) % 18446744073709551616 % 4=2:=by omega
   obtain⟨e1,e2,e3⟩:=Zmg hm (by omega);exact⟨e1,by rw[e2];omega,e3,by omega,by omega⟩
def tgt (pl:List Int) (v:Sp):Int:=if v.1=2 then pl.getD v.2.toNat 0 else v.2
def ZbK (pl:List Int) (v:Sp):Nat:=(ZcD v.1 (tgt pl v)).toNat
def hdW (d:Nd):Nat:=(hW d.kd d.fs.length d.rs.length false 0).toNat
def rowW (pl:List Int) (d:Nd):List Nat:=hdW d::(d.fs.map (ZbK pl)++d.rs)
theorem Zck (pl:List Int) (d:Nd):(rowW pl d).length=1+d.fs.length+d.rs.length:=by
 unfold rowW;simp only[List.length_cons,Yr,List.length_map];omega
theorem Zjx (pl:List Int) (d:Nd):wd (rowW pl d) 0=hdW d:=rfl
theorem ZiG {pl:List Int} {d:Nd} {k:Nat} {v:Sp} (h:d.fs[k]? =some v):wd (rowW pl d) (1+k)=ZbK pl v:=by
 have hk:=(Yj.1 h).1;unfold wd rowW;rw[Ym,show 1+k=k+1 by omega,List.getElem?_cons_succ,List.getElem?_append_left (by rw[List.length_map];exact hk),List.getElem?_map,h];rfl
theorem Zli {pl:List Int} {d:Nd} {k:Nat} {x:Nat} (h:d.rs[k]? =some x):wd (rowW pl d) (1+d.fs.length+k)=x:=by
 unfold wd rowW;rw[Ym,show 1+d.fs.length+k=(d.fs.length+k)+1 by omega,List.getElem?_cons_succ,List.getElem?_append_right (by rw[List.length_map];omega),List.length_map,show d.fs.length+k - d.fs.length=k by omega,h];rfl
theorem Zjq {n:Nat} {d:Nd} (h:Zfo n d=true):hmay d.kd d.fs.length d.rs.length 0=true:=by
 obtain⟨h1,h2,h3, -⟩:=Zbe.1 h;exact ZF.2 ⟨h1,by omega,by omega,by omega⟩
theorem ZmN {d:Nd} (h:hmay d.kd d.fs.length d.rs.length 0=true):wOk (hdW d)=true∧wK (hdW d)=d.kd∧wF (hdW d)=d.fs.length∧wR (hdW d)=d.rs.length∧wM (hdW d)=false∧wC (hdW d)=0∧hdW d<18446744073709551616:=by
 have hb:=ZF.1 h
 obtain⟨k,hk⟩: ∃k:Nat,d.kd=k:=⟨d.kd.toNat,by omega⟩
 have e:hdW d=d.rs.length * 16777216+d.fs.length * 256+k * 8+3:=by
  unfold hdW hW bi;rw[hk];simp only[Bool.false_eq_true,if_false];omega
 have eK:wK (hdW d)=d.kd:=by unfold wK;rw[e,hk];omega
 have eF:wF (hdW d)=d.fs.length:=by unfold wF;rw[e];omega
 have eR:wR (hdW d)=d.rs.length:=by unfold wR;rw[e];omega
 have eC:wC (hdW d)=0:=by unfold wC;rw[e];omega
 refine⟨?_,eK,eF,eR,?_,eC,by rw[e];omega⟩
 · unfold wOk
   rw[eK,eF,eR,eC,h]
   have:hdW d % 4=3:=by rw[e];omega
   rw[this];rfl
 · unfold wM
   have:hdW d / 4 % 2=0:=by rw[e];omega
   rw[this];rfl
theorem Zed {n:Nat} {d:Nd} (h:Zfo n d=true):ndSz d=1+(d.fs.length:Int)+d.rs.length∧1≤ndSz d∧ndSz d≤8193:=by
 obtain⟨h1,h2,h3, -⟩:=Zbe.1 h;unfold ndSz ZoO wrap64;omega
def ZaD (c:Cf) (d:Nd):Bool:=ZX c (ndSz d)
def sSm (c:Cf):List Nd→Int
 |[]=>0
 |d::l=>(if ZaD c d=true then ndSz d else 0)+sSm c l
def sBg (c:Cf):List Nd→Int
 |[]=>0
 |d::l=>(if ZaD c d=true then 0 else ndSz d)+sBg c l
def plL (c:Cf):Int→Int→List Nd→List Int
 |_,_,[]=>[]
 |t,b,d::l=>if ZaD c d=true then t::plL c (t+ndSz d) b l else b::plL c t (b+ndSz d) l
def smL (c:Cf):Int→List Nd→List Int
 |_,[]=>[]
 |t,d::l=>if ZaD c d=true then t::smL c (t+ndSz d) l else smL c t l
def tbL (c:Cf):Int→List Nd→List Sp
 |_,[]=>[]
 |b,d::l=>if ZaD c d=true then tbL c b l else(b,ndSz d)::tbL c (b+ndSz d) l
def frL (b e:Int):List Sp:=if b=e then[] else[(b,e - b)]
structure LoS where
 pl:List Int
 top:Int
 tb:List Sp
 fr:List Sp
def LoS.none:LoS:=⟨[],0,[],[]⟩
theorem Z3 {c:Cf}: ∀{ds:List Nd},(∀d∈ds,1≤ndSz d∧ndSz d≤8193)→0≤sSm c ds∧0≤sBg c ds
 |[],_=>⟨Int.le_refl _,Int.le_refl _⟩
 |d::l,h=>by
  have h1:=h d (List.mem_cons_self ..);have h2:=Z3 (c:=c) (ds:=l) fun x hx=>h x (List.mem_cons_of_mem _ hx);unfold sSm sBg
  split <;> omega
theorem Zhp {b e n:Int} (h0:0≤b) (h1:1≤n) (he:e≤Za6) (hbe:b≤e):(b+n≤e→Zah (frL b e) n=(frL (b+n) e,b,0))∧(¬b+n≤e→Zah (frL b e) n=(frL b e,0,9)):=by
 have hn: ¬n<1:=by omega
 by_cases hb:b=e
 · refine⟨fun h=>by omega,fun _=>ZaT hn ?_⟩
   unfold frL;rw[if_pos hb];simp[Zd9]
 · have hf:frL b e=[(b,e - b)]:=if_neg hb
   have hok:Sp.ok (b,e - b):=⟨h0,by simp only;omega,by simp only;omega,by simp only;omega⟩
   refine⟨fun h=>?_,fun h=>ZaT hn ?_⟩
   · have hfit:Sp.fits n (b,e - b)=true:=Zcp.2 ⟨hok,by simp only;omega⟩
     have hi: ¬Zd9 (Sp.fits n) (frL b e)<0:=by
      intro hlt
      have:=Zca (Sp.fits n) (frL b e)
      rw[hf] at this hlt
      have h2:([((b,e - b):Sp)].any (Sp.fits n))=true:=by simp[hfit]
      rw[h2] at this
      have:=of_decide_eq_true this
      omega
     obtain⟨k,x, -,hx, -, -,e1,e2⟩:=ZbN hn hi;rw[hf] at hx e1 e2 ⊢
     have hk:k=0:=by
      have:=(Yj.1 hx).1
      simp at this;omega
     subst hk
     obtain rfl:(b,e - b)=x:=by simpa using hx
     simp only at e1 e2;by_cases hne:e - b=n
     · rw[e1 hne]
       unfold frL;rw[if_pos (by omega)];rfl
     · rw[e2 hne]
       unfold frL;rw[if_neg (by omega),show e - (b+n)=e - b - n by omega];rfl
   · rw[hf]
     have:=Zca (Sp.fits n) [((b,e - b):Sp)]
     have hfit:Sp.fits n (b,e - b)=false:=by
      cases hq:Sp.fits n (b,e - b) with
      |false=>rfl
      |true=>have:=(Zcp.1 hq).2;simp only at this;omega
     have h2:([((b,e - b):Sp)].any (Sp.fits n))=false:=by simp[hfit]
     rw[h2] at this
     have:=of_decide_eq_false this
     omega
theorem ZlZ {l:List Sp} {s:Sp} (hs:s.ok) (h: ∀y∈l,Sp.ok y∧y.1+y.2≤s.1):Zhg l s=(l++[s],0):=by
 have hm:l.any (fun x=>decide (Sp.meets x s))=false:=Ze9.2 fun x hx hmt=>by
  have h1:=h x hx;rw[Zde h1.1 hs] at hmt;omega
 rw[Zj2 hs hm,Zeu (fun j y _ hy=>by have h1:=h y (Yn hy);have:=h1.1.2.1;omega),Zkn]
end
end Go.Proofs.YtknoncenblehkaaGreatDoor
