/- The heaps of chapter 15's first statement lines: what Check Rows of a copy, written; worlds below. No program in it. A heap that came in by value, opened; a config. A graph in plain words: whether it may be, where nodes lead, -/
import Derived.Test.YteieocddfnlmdaaGreatDoorO21
import Derived.SizedLaws
set_option maxRecDepth 100000
set_option maxHeartbeats 32000000
set_option linter.unusedSimpArgs false
set_option linter.unusedVariables false
namespace Go.Proofs.YteieocddfnlmdaaGreatDoor
section
open Go.RowKit
def ZV (s:St):Bool:=decide (400<s.ws.length)||(decide (60<s.tb.length)||(decide (60<s.fr.length)||decide (100<s.sl.length)))
theorem ZeS {s:St} (h:ZV s=false):s.ws.length≤400∧s.tb.length≤60∧s.fr.length≤60∧s.sl.length≤100:=by
 unfold ZV at h;simp at h;omega
theorem ZrK (s:St) (vw vt vf vs:Value) (B:Nat) (w:World) (h:Rd w B s vw vt vf vs):Calls Tryz.prog 6 #[.agg #[.int .i64 s.cf.semi,.int .i64 s.cf.large,.int .i64 s.cf.slots,.int .i64 s.cf.limit,.bool s.sec,vw,.int .i64 s.top,vt,vf,vs]] w fun e w'=>e=.returned (.bool (ZV s))∧Only nob w w':=by
 obtain⟨At,ct,rfl,hat,hct⟩:=h.tab.form;obtain⟨Aw,cw,rfl,haw,hcw⟩:=h.words.form;obtain⟨Al,cl,rfl,hal,hcl⟩:=h.slots.form;obtain⟨Af,cf,rfl,haf,hcf⟩:=h.free.form;unfold maxLen at hct hcw hcl hcf;obtain⟨W,hW,HB⟩:=Zu w s (.slice Aw s.ws.length cw) (.slice At s.tb.length ct) (.slice Af s.fr.length cf) (.slice Al s.sl.length cl);have HW:=ZZ hW;obtain⟨c0,c1,c2,c3,c4,c5,c6,c7,c8,c9⟩:=HB.out.2.2
 obtain⟨q,hq⟩: ∃q,q=ZV s:=⟨_,rfl⟩
 have HQ:=ZZ hq;rw[← hq];clear hW hq h;by_cases h1:400<s.ws.length
 · have HF:=ZZ (HQ.out.trans (show ZV s=true by unfold ZV;simp[h1]))
   go_enter Tryz.func6,Tryz.ntmps6
   go_upto_region 1 with fail
   rw[HW.out];go_wp2;go_ret;exact⟨Za (by rw[HF.out]),HB.out.1⟩
 · by_cases h2:60<s.tb.length
   · have HF:=ZZ (HQ.out.trans (show ZV s=true by unfold ZV;simp[h2]))
     go_enter Tryz.func6,Tryz.ntmps6
     go_upto_region 1 with fail
     rw[HW.out];go_wp2;go_ret;exact⟨Za (by rw[HF.out]),HB.out.1⟩
   · by_cases h3:60<s.fr.length
     · have HF:=ZZ (HQ.out.trans (show ZV s=true by unfold ZV;simp[h3]))
       go_enter Tryz.func6,Tryz.ntmps6
       go_upto_region 1 with fail
       rw[HW.out];go_wp2;go_ret;exact⟨Za (by rw[HF.out]),HB.out.1⟩
     · have HF:=ZZ (HQ.out.trans (show ZV s=decide (100<s.sl.length) by unfold ZV;simp[h1,h2,h3]))
       by_cases h4:100<s.sl.length
       · rw[Ym h4] at HF
         go_enter Tryz.func6,Tryz.ntmps6
         go_upto_region 1 with fail
         rw[HW.out];go_wp2;go_ret;exact⟨Za (by rw[HF.out];simp;omega),HB.out.1⟩
       · rw[Yl h4] at HF
         go_enter Tryz.func6,Tryz.ntmps6
         go_upto_region 1 with fail
         rw[HW.out];go_wp2;go_ret;exact⟨Za (by rw[HF.out];simp;omega),HB.out.1⟩
structure Wide15 (s:St):Prop where
 cf:CFit s.cf
 ws:Za1 s.ws
 top:I64 s.top
 tb:Zrh s.tb
 fr:Zrh s.fr
 sl:Zom s.sl
theorem Wide15.ok {s:St} (h:Wide15 s) (hl:ZV s=false):StOk s:=by
 have:=ZeS hl
 exact⟨h.cf,h.ws,h.top,h.tb,h.fr,h.sl,by omega⟩
theorem Zdj {w:World} {base:Nat} {E:TypeId} {size n:Nat} {v:Value} {xs:List Value} (h:w.ownsRow base E size v n xs) {i:Nat} (hi:i<n * size):
 ∃g c,v=.slice (some ⟨g,0,none⟩) n c∧n≤c∧c≤maxLen∧w.frozen? ⟨g,i,none⟩=false∧w.cell? ⟨g,i,none⟩=xs[i]?∧ ∀u,(w.setCell ⟨g,i,none⟩ u).ownsRow base E size v n (xs.set i u)∧Only (fun k=>v.ownBlock=some k) w (w.setCell ⟨g,i,none⟩ u):=by
 obtain⟨h0,h⟩:=h
 rcases h with⟨_,h1⟩|⟨g,cap,cur,rfl,hb,hg,h1,h2,h3,h4⟩
 · rw[h1,Nat.zero_mul] at hi;omega
 · have hB:Blk w g E cur:=hg
   refine⟨g,cap,rfl,h1,h2,hB.free i,?_,fun u=>⟨⟨by rw[List.length_set];exact h0,.inr ⟨g,cap,cur.setIfInBounds i u,rfl,hb,hB.put i u,h1,h2,by simpa using h3,?_⟩⟩,(Zd w g i u).mono fun k _ e=>?_⟩⟩
   · rw[hB.cell, ← Array.getElem?_toList, ← h4,List.getElem?_take,if_pos hi]
   · rw[Array.toList_setIfInBounds,List.take_set,h4]
   · unfold isb at e
     rw[e];rfl
theorem Own4.rd {w:World} {base:Nat} {s:St} {vw vt vf vs:Value} (h:Own4 w base s vw vt vf vs):Rd w w.heap.size s vw vt vf vs:=
 ⟨Sl.of_own h.words (by rw[Zhm,Nat.mul_one]),Sl.of_own h.tab (by rw[Za8]),Sl.of_own h.free (by rw[Za8]),Sl.of_own h.slots (by rw[Ze9])⟩
theorem Own4.keep {w w':World} {base:Nat} {s:St} {vw vt vf vs:Value} (h:Own4 w base s vw vt vf vs) (o:Only nob w w'):Own4 w' base s vw vt vf vs:=
 ⟨Zb h.words o fun _ _=>id,Zb h.tab o fun _ _=>id,Zb h.free o fun _ _=>id,Zb h.slots o fun _ _=>id,h.apart⟩
end
section
open Go.ChangeShapes Go.WideShapes Go.RowKit Go.Deep
theorem ZfE: ∀(n:Nat) (xs:List Value),xs.length=n * 2→(∀j,j<n * 2→ ∃z:Int,xs[j]? =some (.int .i64 z)∧I64 z)→ ∃l:List Sp,l.length=n∧xs=spc l∧Zrh l
 |0,[],_,_=>⟨[],rfl,rfl,fun _ h=>by cases h⟩
 |0,_::_,hl,_=>by simp at hl
 |n+1,[],hl,_=>by simp at hl
 |n+1,[_],hl,_=>by simp at hl;omega
 |n+1,a::b::xs,hl,h=>by
  obtain⟨x,e0,b0⟩:=h 0 (by omega);obtain⟨y,e1,b1⟩:=h 1 (by omega)
  obtain rfl:a=.int .i64 x:=by simpa using e0
  obtain rfl:b=.int .i64 y:=by simpa using e1
  obtain⟨l,hl',rfl,hF⟩:=ZfE n xs (by simp at hl;omega) fun j hj=>by
   have:=h (j+2) (by omega)
   simpa using this
  exact⟨(x,y)::l,by simp[hl'],by simp[spc],fun z hz=>by
   rcases List.mem_cons.1 hz with rfl|hz
   · exact⟨b0,b1⟩
   · exact hF z hz⟩
theorem Zgp: ∀(n:Nat) (xs:List Value),xs.length=n * 3→(∀i,i<n→ ∃(u:Bool) (g:Int) (x:Nat),xs[i * 3+0]? =some (.bool u)∧xs[i * 3+1]? =some (.int .i64 g)∧xs[i * 3+2]? =some (.int .u64 (x:Nat))∧ -9223372036854775808≤g∧g≤9223372036854775807∧x<full)→ ∃l:List Slt,l.length=n∧xs=slc l∧Zom l
 |0,[],_,_=>⟨[],rfl,rfl,fun _ h=>by cases h⟩
 |0,_::_,hl,_=>by simp at hl
 |n+1,[],hl,_=>by simp at hl
 |n+1,[_],hl,_=>by simp at hl;omega
 |n+1,[_,_],hl,_=>by simp at hl;omega
 |n+1,a::b::c::xs,hl,h=>by
  obtain⟨u,g,x,e0,e1,e2,b0,b1,b2⟩:=h 0 (by omega)
  obtain rfl:a=.bool u:=by simpa using e0
  obtain rfl:b=.int .i64 g:=by simpa using e1
  obtain rfl:c=.int .u64 (x:Nat):=by simpa using e2
  obtain⟨l,hl',rfl,hF⟩:=Zgp n xs (by simp at hl;omega) fun j hj=>by
   have:=h (j+1) (by omega)
   simpa[Nat.add_mul] using this
  exact⟨(u,g,x)::l,by simp[hl'],by simp[slc,slE],fun z hz=>by
   rcases List.mem_cons.1 hz with rfl|hz
   · exact⟨b0,b1,b2⟩
   · exact hF z hz⟩
section
variable {H:Type} {enc:TypeId×Value→H} {w:World} {base b0:Nat} {r:Reach} {sp:Nat→Bool} {held:Bool}
theorem Zdv {fuel:Nat} {u:Value} {x:DataW H×List MemPlace} (h:DataW.trod enc Tryz.prog w base sp held fuel 25 [u]=some x): ∃l:List Sp,Sl w w.heap.size 2 u l.length (spc l)∧Zrh l:=by
 obtain⟨hv,ht⟩:=Zca Tryz.underlying25 h;obtain⟨n,xs,hs,hf⟩:=Zci 2 Tryz.underlying25 Tryz.underlying51 (by kernel_rfl) (by kernel_rfl) (by kernel_rfl) (by decide) hv ht
 have hcell: ∀j,j<n * 2→ ∃z:Int,xs[j]? =some (.int .i64 z)∧I64 z:=by
  intro j hj
  have hi:j / 2<n:=by omega
  have h2:j % 2=0∨j % 2=1:=by omega
  have hj2:j / 2 * 2+j % 2=j:=by omega
  rcases h2 with h2|h2
  · obtain⟨u,y,k,hu,hd⟩:=hf (j / 2) 0 _ hi rfl
    obtain⟨z,e0, -,w0⟩:=DataW.trod_int (k:=.i64) (by kernel_rfl) hd
    obtain rfl:u=.int .i64 z:=by simpa using e0
    exact⟨z,by rw[← hj2,h2];exact hu,bounds_i64 w0⟩
  · obtain⟨u,y,k,hu,hd⟩:=hf (j / 2) 1 _ hi rfl
    obtain⟨z,e0, -,w0⟩:=DataW.trod_int (k:=.i64) (by kernel_rfl) hd
    obtain rfl:u=.int .i64 z:=by simpa using e0
    exact⟨z,by rw[← hj2,h2];exact hu,bounds_i64 w0⟩
 obtain⟨A,c,rfl,_,_,hl,_⟩:=id hs;obtain⟨l,rfl,rfl,hF⟩:=ZfE n xs hl hcell;exact⟨l,hs,hF⟩
theorem Zg5 {fuel:Nat} {u:Value} {x:DataW H×List MemPlace} (h:DataW.trod enc Tryz.prog w base sp held fuel 26 [u]=some x): ∃l:List Slt,Sl w w.heap.size 3 u l.length (slc l)∧Zom l:=by
 obtain⟨hv,ht⟩:=Zca Tryz.underlying26 h;obtain⟨n,xs,hs,hf⟩:=Zci 3 Tryz.underlying26 Tryz.underlying61 (by kernel_rfl) (by kernel_rfl) (by kernel_rfl) (by decide) hv ht;obtain⟨A,c,rfl,_,_,hl,_⟩:=id hs
 obtain⟨l,rfl,rfl,hF⟩:=Zgp n xs hl fun i hi=>by
  obtain⟨u0,y0,k0,e0,d0⟩:=hf i 0 _ hi rfl;obtain⟨u,i0, -⟩:=DataW.trod_bool (by kernel_rfl) d0
  obtain rfl:u0=.bool u:=by simpa using i0
  obtain⟨u1,y1,k1,e1,d1⟩:=hf i 1 _ hi rfl;obtain⟨g,i1, -,w1⟩:=DataW.trod_int (k:=.i64) (by kernel_rfl) d1
  obtain rfl:u1=.int .i64 g:=by simpa using i1
  obtain⟨u2,y2,k2,e2,d2⟩:=hf i 2 _ hi rfl;obtain⟨x,i2, -,w2⟩:=DataW.trod_int (k:=.u64) (by kernel_rfl) d2
  obtain rfl:u2=.int .u64 x:=by simpa using i2
  have hx:=Zdl w2;exact⟨u,g,x.toNat,e0,e1,by rw[e2, ← hx.1],(bounds_i64 w1).1,(bounds_i64 w1).2,hx.2⟩
 exact⟨l,hs,hF⟩
theorem Zhc {fuel:Nat} {u:Value} {x:DataW H×List MemPlace} (h:DataW.trod enc Tryz.prog w base sp held fuel 24 [u]=some x): ∃l:List Nat,Sl w w.heap.size 1 u l.length (u64s l)∧Za1 l:=by
 obtain⟨hv,ht⟩:=Zca Tryz.underlying24 h;exact ZgZ Tryz.underlying24 Tryz.underlying48 (by kernel_rfl) hv ht
theorem Zht {fuel:Nat} {a b c d:Value} {x:DataW H×List MemPlace} (h:DataW.trod enc Tryz.prog w base sp held fuel 23 [a,b,c,d]=some x): ∃cf:Cf,a=.int .i64 cf.semi∧b=.int .i64 cf.large∧c=.int .i64 cf.slots∧d=.int .i64 cf.limit∧CFit cf:=by
 obtain⟨hl,ys,k, -, -,hg⟩:=Zcs Tryz.underlying23 (by kernel_rfl) (by kernel_rfl) h;obtain⟨u0,y0,e0, -,h0⟩:=hg 0 _ rfl;obtain⟨u1,y1,e1, -,h1⟩:=hg 1 _ rfl;obtain⟨u2,y2,e2, -,h2⟩:=hg 2 _ rfl;obtain⟨u3,y3,e3, -,h3⟩:=hg 3 _ rfl;obtain⟨z0,i0, -,w0⟩:=DataW.trod_int (k:=.i64) (by kernel_rfl) h0;obtain⟨z1,i1, -,w1⟩:=DataW.trod_int (k:=.i64) (by kernel_rfl) h1;obtain⟨z2,i2, -,w2⟩:=DataW.trod_int (k:=.i64) (by kernel_rfl) h2;obtain⟨z3,i3, -,w3⟩:=DataW.trod_int (k:=.i64) (by kernel_rfl) h3;simp at e0 e1 e2 e3 i0 i1 i2 i3;exact⟨⟨z0,z1,z2,z3⟩,by simp[e0,i0],by simp[e1,i1],by simp[e2,i2],by simp[e3,i3],bounds_i64 w0,bounds_i64 w1,bounds_i64 w2,bounds_i64 w3⟩
theorem Zgi {v:Value} {d:DataW H} {p:List MemPlace} (hv:Value.okWide Tryz.prog w r b0 28 v) (h:DataW.Trod enc Tryz.prog w base sp held 28 v d p):
 ∃(s:St) (vw vt vf vs:Value),v=.agg #[.int .i64 s.cf.semi,.int .i64 s.cf.large,.int .i64 s.cf.slots,.int .i64 s.cf.limit,.bool s.sec,vw,.int .i64 s.top,vt,vf,vs]∧Rd w w.heap.size s vw vt vf vs∧Wide15 s:=by
 obtain⟨⟨cs⟩,rfl,hsz⟩:=okWide_struct Tryz.underlying28 hv;obtain⟨fuel,hf⟩:=h;obtain⟨ys,n, -, -,hl,hyl,hg⟩:=DataW.trod_struct Tryz.underlying28 hf
 have hl10:cs.length=10:=by
  have:Tryz.prog.cellsOf 28=10:=by kernel_rfl
  rw[this] at hl;simpa[Value.cells] using hl
 match cs,hl10 with
 |[u0,u1,u2,u3,u4,u5,u6,u7,u8,u9],_=>
  have key: ∀{x:Option (DataW H×List MemPlace)} {j:Nat},j<ys.length→x=ys[j]?→ ∃y,x=some y:=fun hj e=>⟨_,e.trans (Ya hj)⟩
  have hys:ys.length=7:=hyl;obtain⟨y0,h0⟩:=key (by omega) (hg 0 _ rfl);obtain⟨y1,h1⟩:=key (by omega) (hg 1 _ rfl);obtain⟨y2,h2⟩:=key (by omega) (hg 2 _ rfl);obtain⟨y3,h3⟩:=key (by omega) (hg 3 _ rfl);obtain⟨y4,h4⟩:=key (by omega) (hg 4 _ rfl);obtain⟨y5,h5⟩:=key (by omega) (hg 5 _ rfl);obtain⟨y6,h6⟩:=key (by omega) (hg 6 _ rfl);have g0:DataW.trod enc Tryz.prog w base sp held n 23 [u0,u1,u2,u3]=some y0:=h0;have g1:DataW.trod enc Tryz.prog w base sp held n 4 [u4]=some y1:=h1;have g2:DataW.trod enc Tryz.prog w base sp held n 24 [u5]=some y2:=h2;have g3:DataW.trod enc Tryz.prog w base sp held n 3 [u6]=some y3:=h3;have g4:DataW.trod enc Tryz.prog w base sp held n 25 [u7]=some y4:=h4;have g5:DataW.trod enc Tryz.prog w base sp held n 25 [u8]=some y5:=h5;have g6:DataW.trod enc Tryz.prog w base sp held n 26 [u9]=some y6:=h6;obtain⟨cf,rfl,rfl,rfl,rfl,hc⟩:=Zht g0;obtain⟨b,i1, -⟩:=DataW.trod_bool (by kernel_rfl) g1
  obtain rfl:u4=.bool b:=by simpa using i1
  obtain⟨ws,hs2,hw2⟩:=Zhc g2;obtain⟨z,i3, -,w3⟩:=DataW.trod_int (k:=.i64) (by kernel_rfl) g3
  obtain rfl:u6=.int .i64 z:=by simpa using i3
  obtain⟨tb,hs4,hw4⟩:=Zdv g4;obtain⟨fr,hs5,hw5⟩:=Zdv g5;obtain⟨sl,hs6,hw6⟩:=Zg5 g6;exact⟨⟨cf,b,ws,z,tb,fr,sl⟩,u5,u7,u8,u9,rfl,⟨hs2,hs4,hs5,hs6⟩,hc,hw2,bounds_i64 w3,hw4,hw5,hw6⟩
end
end
section
open Go.RowKit
structure Nd where
 kd:Int
 fs:List Sp
 rs:List Nat
structure Gr where
 nd:List Nd
 rt:List Sp
def vOk (n:Nat) (v:Sp):Bool:=ZbC v.1 v.2&&!(decide (v.1=2)&&decide ((n:Int)≤v.2))
def Zja (n:Nat) (d:Nd):Bool:=decide (0≤d.kd∧d.kd≤31)&&(decide (d.fs.length≤4096)&&(decide (d.rs.length≤4096)&&d.fs.all (vOk n)))
def ZC (g:Gr):Bool:=g.nd.all (Zja g.nd.length)&&g.rt.all (vOk g.nd.length)
def Zjs (d:Nd):Int:=1+(d.fs.length:Int)+(d.rs.length:Int)
def ZdR (d:Nd):Int:=wrap64 (Zjs d)
theorem ZdS (a b:Int):wrap64 (wrap64 a+b)=wrap64 (a+b):=by unfold wrap64;omega
theorem ZjH (a b:Int):wrap64 (a+wrap64 b)=wrap64 (a+b):=by unfold wrap64;omega
def refsOf (l:List Sp):List Int:=(l.filter fun v=>decide (v.1=2)).map (·.2)
def Zh2 (g:Gr) (i:Int):Option Nd:=if 0≤i then g.nd[i.toNat]? else none
def wAt (g:Gr) (i:Int):Int:=match Zh2 g i with|some d=>Zjs d|none=>0
def fAt (g:Gr) (i:Int):Int:=match Zh2 g i with|some d=>(d.fs.length:Int)|none=>0
def Zjg (g:Gr) (l:List Int):Int:=wrap64 (l.map (wAt g)).sum
def Zj8 (g:Gr) (l:List Int):Int:=wrap64 (l.map (fAt g)).sum
theorem Zkq (a:Int):wrap64 (wrap64 a)=wrap64 a:=by have:=ZdS a 0;simpa using this
def plc (l:List Int) (x:Int):Int:=if x∈l then(l.idxOf x:Nat) else -1
theorem ZgD {l:List Int} {x:Int} (h:x∈l):plc l x=(l.idxOf x:Nat):=if_pos h
theorem ZhN {l:List Int} {x:Int} (h:x∉l):plc l x= -1:=if_neg h
theorem ZnI {l:List Int} {x:Int} {k:Nat} (hx:l[k]? =some x) (hn: ∀(j:Nat) y,j<k→l[j]? =some y→y≠x):plc l x=k:=by
 have hm:x∈l:=Yo hx;rw[ZgD hm];obtain⟨hk,e⟩:=Yk.1 hx;have h1:l.idxOf x<l.length:=List.idxOf_lt_length_iff.2 hm
 have h2:l[l.idxOf x]? =some x:=by rw[Ya h1];simp
 rcases Nat.lt_trichotomy (l.idxOf x) k with h|h|h
 · exact absurd rfl (hn _ _ h h2)
 · rw[h]
 · exfalso
   have h3:=List.not_of_lt_findIdx (p:=(· ==x)) (xs:=l) (i:=k) h;rw[e] at h3;simp at h3
theorem ZeC {l:List Int} {x:Int} (h:x∈l): ∃k:Nat,plc l x=k∧l[k]? =some x:=by
 refine⟨l.idxOf x,ZgD h,?_⟩;have h1:l.idxOf x<l.length:=List.idxOf_lt_length_iff.2 h;rw[Ya h1];simp
def ZbI (o:List Int) (v:Sp):Bool:=!decide (v.1=2)||decide (v.2∈o)
def ZbZ (o:List Int) (v:Sp):Sp:=if v.1=2 then(2,plc o v.2) else v
def Zqt (o:List Int) (l:List Sp):Bool:=l.all (ZbI o)
def ZbS (o:List Int) (l:List Sp):List Sp:=l.map (ZbZ o)
def Zcr (n:Nat) (o:List Int):Bool:=o.all (fun x=>decide (0≤x∧x<(n:Int)))&&decide o.Nodup
def ndT (o:List Int) (d:Nd):Nd:=⟨d.kd,ZbS o d.fs,d.rs⟩
def noNd:Nd:=⟨0,[],[]⟩
def Zch (g:Gr) (o:List Int):List Nd:=o.map fun i=>g.nd.getD i.toNat noNd
def rnE (g:Gr) (o:List Int):Int:=
 if ZC g=true then(if Zcr g.nd.length o=true then(if(Zch g o).all (fun d=>Zqt o d.fs)&&Zqt o g.rt then 0 else 2) else 1) else 4
def rnG (g:Gr) (o:List Int):Gr:=if rnE g o=0 then⟨(Zch g o).map (ndT o),ZbS o g.rt⟩ else⟨[],[]⟩
structure RnOk (g:Gr) (o:List Int):Prop where
 may:ZC g=true
 ord:Zcr g.nd.length o=true
 nds:(Zch g o).all (fun d=>Zqt o d.fs)=true
 rts:Zqt o g.rt=true
theorem ZjG {g:Gr} {o:List Int}:rnE g o=0↔RnOk g o:=by
 unfold rnE;constructor
 · intro h
   repeat' split at h
   all_goals first|cases h|skip
   rename_i h1 h2 h3
   rw[Bool.and_eq_true] at h3;exact⟨h1,h2,h3.1,h3.2⟩
 · rintro⟨h1,h2,h3,h4⟩
   rw[if_pos h1,if_pos h2,if_pos (by rw[h3,h4];rfl)]
theorem Zam {n:Nat} {o:List Int}:Zcr n o=true↔(∀x∈o,0≤x∧x<(n:Int))∧o.Nodup:=by
 unfold Zcr;simp[List.all_eq_true]
theorem Zi8: ∀{l m:List Nat},l.Nodup→(∀x∈l,x∈m)→l.length≤m.length
 |[],_,_,_=>Yu _
 |x::l,m,hn,hs=>by
  obtain⟨h1,h2⟩:=List.nodup_cons.1 hn;have hx:x∈m:=hs x List.mem_cons_self;have ih:=Zi8 (m:=m.erase x) h2 fun y hy=>(List.mem_erase_of_ne (fun e=>h1 (by rw[← e];exact hy))).2 (hs y (List.mem_cons_of_mem _ hy));rw[List.length_erase_of_mem hx] at ih
  have:0<m.length:=List.length_pos_of_mem hx
  simp only[List.length_cons];omega
theorem Zdr {l:List Int} (h:l.Nodup) {i j:Nat} {x:Int} (hi:l[i]? =some x) (hj:l[j]? =some x):i=j:=by
 obtain⟨h1,e1⟩:=Yk.1 hi;obtain⟨h2,e2⟩:=Yk.1 hj;exact(List.getElem_inj (h₀:=h1) (h₁:=h2) h).1 (e1.trans e2.symm)
theorem Znr {l:List Int} (h:l.Nodup) {k:Nat} {x:Int} (hk:l[k]? =some x):plc l x=k:=by
 obtain⟨j,h1,h2⟩:=ZeC (Yo hk);rw[h1,Zdr h h2 hk]
theorem Zpz {n:Nat} {v:Sp} (h:vOk n v=true) (h2:v.1=2):0≤v.2∧v.2<(n:Int):=by
 unfold vOk ZbC at h;rw[h2] at h;simp[vin] at h;omega
theorem ZeU {g:Gr} {o:List Int} (ho: ∀x∈o,0≤x∧x<(g.nd.length:Int)) {d:Nd} (hd:d∈Zch g o):d∈g.nd:=by
 obtain⟨i,hi,rfl⟩:=List.mem_map.1 hd
 have:=ho i hi
 have hlt:i.toNat<g.nd.length:=by omega
 rw[Yn,Ya hlt];exact List.getElem_mem hlt
theorem Zb9 {n:Nat} {d:Nd}:Zja n d=true↔(0≤d.kd∧d.kd≤31)∧d.fs.length≤4096∧d.rs.length≤4096∧ ∀v∈d.fs,vOk n v=true:=by
 unfold Zja;simp[List.all_eq_true]
theorem ZbD {g:Gr}:ZC g=true↔(∀d∈g.nd,Zja g.nd.length d=true)∧ ∀v∈g.rt,vOk g.nd.length v=true:=by
 unfold ZC;simp[List.all_eq_true]
structure NdR (w:World) (B:Nat) (d:Nd) (h:Value×Value):Prop where
 fields:Sl w B 2 h.1 d.fs.length (spc d.fs)
 raws:Sl w B 1 h.2 d.rs.length (u64s d.rs)
def ndc:List Nd→List (Value×Value)→List Value
 |d::l,h::hs=>.int .i64 d.kd::h.1::h.2::ndc l hs
 |_,_=>[]
theorem Zjr: ∀(l:List Nd) (hs:List (Value×Value)) (k:Nat) (d:Nd) (h:Value×Value),l[k]? =some d→hs[k]? =some h→(ndc l hs)[k * 3]? =some (.int .i64 d.kd)∧(ndc l hs)[k * 3+1]? =some h.1∧(ndc l hs)[k * 3+2]? =some h.2
 |[],_,_,_,_,hd,_=>by cases hd
 |_::_,[],_,_,_,_,hh=>by cases hh
 |x::l,y::hs,0,d,h,hd,hh=>by
  obtain rfl:x=d:=by simpa using hd
  obtain rfl:y=h:=by simpa using hh
  exact⟨rfl,rfl,rfl⟩
 |x::l,y::hs,k+1,d,h,hd,hh=>by
  have:=Zjr l hs k d h (by simpa using hd) (by simpa using hh)
  have e:(k+1) * 3=k * 3+3:=by omega
  rw[e];exact this
structure RdG (w:World) (B:Nat) (g:Gr) (vn vr:Value) (hs:List (Value×Value)):Prop where
 len:hs.length=g.nd.length
 nodes:Sl w B 3 vn g.nd.length (ndc g.nd hs)
 each: ∀(i:Nat) d h,g.nd[i]? =some d→hs[i]? =some h→NdR w B d h
 roots:Sl w B 2 vr g.rt.length (spc g.rt)
section
variable {w w':World} {B B':Nat} {g:Gr} {vn vr:Value} {hs:List (Value×Value)} {d:Nd} {h:Value×Value}
theorem NdR.below (H:NdR w B d h) (b:Below B w w'):NdR w' B d h:=⟨H.fields.below b,H.raws.below b⟩
theorem NdR.more (H:NdR w B d h) (b:B≤B'):NdR w B' d h:=⟨H.fields.more b,H.raws.more b⟩
theorem RdG.below (H:RdG w B g vn vr hs) (b:Below B w w'):RdG w' B g vn vr hs:=⟨H.len,H.nodes.below b,fun i d h h1 h2=>(H.each i d h h1 h2).below b,H.roots.below b⟩
theorem RdG.more (H:RdG w B g vn vr hs) (b:B≤B'):RdG w B' g vn vr hs:=⟨H.len,H.nodes.more b,fun i d h h1 h2=>(H.each i d h h1 h2).more b,H.roots.more b⟩
theorem RdG.only (H:RdG w B g vn vr hs) (o:Only nob w w') (hB:B≤w.heap.size):RdG w' B g vn vr hs:=H.below (o.below hB fun _ h=>h.elim)
theorem RdG.at_ {A:Option Addr} {c k:Nat} (H:RdG w B g (.slice A g.nd.length c) vr hs) (b:Below B w w') (hd:g.nd[k]? =some d):
 ∃bb o fv rv,A=some ⟨bb,o,none⟩∧bb<B∧hs[k]? =some (fv,rv)∧w'.cell? ⟨bb,o+k * 3,none⟩=some (.int .i64 d.kd)∧w'.cell? ⟨bb,o+k * 3+1,none⟩=some fv∧w'.cell? ⟨bb,o+k * 3+2,none⟩=some rv∧NdR w' B d (fv,rv):=by
 have hk:k<g.nd.length:=(Yk.1 hd).1
 obtain⟨⟨fv,rv⟩,hh⟩: ∃h,hs[k]? =some h:=⟨_,Ya (by rw[H.len];exact hk)⟩
 obtain⟨bb,o,c',e,_,_,hlt,hc⟩:=(H.nodes.below b).at_ (by omega)
 obtain⟨rfl,rfl⟩:A=some ⟨bb,o,none⟩∧c=c':=by simpa using e
 obtain⟨g0,g1,g2⟩:=Zjr g.nd hs k d (fv,rv) hd hh;exact⟨bb,o,fv,rv,rfl,hlt,hh,hc _ _ g0,by have:=hc _ _ g1;rwa [← Nat.add_assoc] at this,by have:=hc _ _ g2;rwa [← Nat.add_assoc] at this,(H.each k d _ hd hh).below b⟩
end
def ZuK (l:List Sp):Prop:= ∀v∈l,(-9223372036854775808≤v.1∧v.1≤9223372036854775807)∧ -9223372036854775808≤v.2∧v.2≤9223372036854775807
structure GrFit (g:Gr):Prop where
 kd: ∀d∈g.nd, -9223372036854775808≤d.kd∧d.kd≤9223372036854775807
 fs: ∀d∈g.nd,ZuK d.fs
 rs: ∀d∈g.nd,Za1 d.rs
 rt:ZuK g.rt
noncomputable instance (a b:Gr):Decidable (a=b):=Classical.propDecidable _
noncomputable def ZeJ (a b:Gr):Bool:=decide (a=b)
def ZnT (f:FuncId):Prop:= ∀(g:Gr) (vn vr:Value) (hs:List (Value×Value)) (B:Nat) (w:World),RdG w B g vn vr hs→B≤w.heap.size→GrFit g→
 Calls Tryz.prog f #[.agg #[vn,vr]] w fun e w'=>e=.returned (.bool (ZC g))∧Only nob w w'
def ZtS (f:FuncId):Prop:= ∀(d:Nd) (h:Value×Value) (B:Nat) (w:World),NdR w B d h→
 Calls Tryz.prog f #[.agg #[.int .i64 d.kd,h.1,h.2]] w fun e w'=>e=.returned (.int .i64 (ZdR d))∧Only nob w w'
def Zuf (S:Gr→List Int→Int) (f:FuncId):Prop:= ∀(g:Gr) (l:List Int) (vn vr v:Value) (hs:List (Value×Value)) (B:Nat) (w:World),RdG w B g vn vr hs→Sl w B 1 v l.length (i64s l)→B≤w.heap.size→GrFit g→l.length≤1000→
 Calls Tryz.prog f #[.agg #[vn,vr],v] w fun e w'=>e=.returned (.int .i64 (S g l))∧Only nob w w'
def Zt7 (f:FuncId):Prop:= ∀(g k:Gr) (vn vr un ur:Value) (hs js:List (Value×Value)) (B B':Nat) (w:World),RdG w B g vn vr hs→RdG w B' k un ur js→B≤w.heap.size→B'≤w.heap.size→GrFit g→GrFit k→
 Calls Tryz.prog f #[.agg #[vn,vr],.agg #[un,ur]] w fun e w'=>e=.returned (.bool (ZeJ g k))∧Only nob w w'
def ZuW (f:FuncId):Prop:= ∀(g:Gr) (o:List Int) (vn vr v:Value) (hs:List (Value×Value)) (B:Nat) (w:World),RdG w B g vn vr hs→Sl w B 1 v o.length (i64s o)→B≤w.heap.size→GrFit g→g.nd.length≤1000→g.rt.length≤1000→o.length≤1000→(∀x∈o, -9223372036854775808≤x∧x≤9223372036854775807)→
 Calls Tryz.prog f #[.agg #[vn,vr],v] w fun e w'=> ∃un ur js,e=.returned (.tuple #[.agg #[un,ur],.int .i64 (rnE g o)])∧RdG w' w'.heap.size (rnG g o) un ur js∧Only nob w w'
end
section
open Go.ChangeShapes Go.WideShapes Go.RowKit Go.Deep
section
variable {H:Type} {enc:TypeId×Value→H} {w:World} {base b0:Nat} {r:Reach} {sp:Nat→Bool} {held:Bool}
end
end
section
open Go.ChangeShapes Go.WideShapes Go.RowKit Go.Deep
section
variable {H:Type} {enc:TypeId×Value→H} {P:Program} {w:World} {base:Nat} {sp:Nat→Bool} {held:Bool}
end
section
variable {H:Type} {enc:TypeId×Value→H} {w:World} {base:Nat} {sp:Nat→Bool} {held:Bool}
end
end
end Go.Proofs.YteieocddfnlmdaaGreatDoor
