/- Slots of a table of handles: cells, what is found, put, got, -/
import Derived.Test.YtknoncenblehkaaGreatDoorG04
import Derived.Test.YtknoncenblehkaaGreatDoorG05
import Derived.Deep.QuietTactic
import Derived.Laws.StructEq
import Derived.Deep.DeepCutAuto
import Derived.Deep.CutBlock
import Derived.Lib.SliceRun
import Derived.Shelf.Abstract
set_option maxRecDepth 100000
set_option maxHeartbeats 32000000
set_option linter.unusedSimpArgs false
set_option linter.unusedVariables false
namespace Go.Proofs.YtknoncenblehkaaGreatDoor
section
open Go.RowKit
abbrev Slt:=Bool×Int×Nat
def Slt.good (s:Slt):Bool:=decide (0≤s.2.1∧s.2.1<1099511627776)
def slE (s:Slt):List Value:=[.bool s.1,.int .i64 s.2.1,.int .u64 (s.2.2:Nat)]
def slc (l:List Slt):List Value:=l.flatMap slE
theorem ZaP (l:List Slt):(slc l).length=l.length * 3:=by
 induction l with
 |nil=>rfl
 |cons s l ih=>simp only[slc,List.flatMap_cons,Yr,List.length_cons,slE,List.length_nil] at ih ⊢;omega
theorem ZeW: ∀(l:List Slt) (k:Nat) (s:Slt),l[k]? =some s→(slc l)[k * 3]? =some (.bool s.1)∧(slc l)[k * 3+1]? =some (.int .i64 s.2.1)∧(slc l)[k * 3+2]? =some (.int .u64 (s.2.2:Nat))
 |[],k,s,h=>by simp at h
 |y::l,0,s,h=>by
  obtain rfl:y=s:=by simpa using h
  exact⟨rfl,rfl,rfl⟩
 |y::l,k+1,s,h=>by
  have:=ZeW l k s (by simpa using h)
  rw[show(k+1) * 3=k * 3+1+1+1 by omega];simpa[slc,slE] using this
theorem ZjI: ∀(l:List Slt) (k:Nat) (s:Slt),k<l.length→(((slc l).set (k * 3) (.bool s.1)).set (k * 3+1) (.int .i64 s.2.1)).set (k * 3+2) (.int .u64 (s.2.2:Nat))=slc (l.set k s)
 |[],k,s,h=>by simp at h
 |y::l,0,s,h=>by simp[slc,slE]
 |y::l,k+1,s,h=>by
  have:=ZjI l k s (by simpa using h)
  rw[show(k+1) * 3=k * 3+1+1+1 by omega];simpa[slc,slE] using this
def Zhx (p:Nat→Slt→Bool) (l:List Slt):Nat:=l.zipIdx.findIdx fun x=>p x.2 x.1
section
variable {p:Nat→Slt→Bool} {l:List Slt} {k:Nat} {s:Slt}
theorem ZlN (hx:l[k]? =some s) (hp:p k s=true) (hb: ∀(j:Nat) y,j<k→l[j]? =some y→p j y=false):Zhx p l=k:=by
 obtain⟨hk,rfl⟩:=Yj.1 hx;unfold Zhx;rw[List.findIdx_eq (by simpa using hk)];refine⟨by simpa using hp,fun j hj=>?_⟩
 have:=hb j _ hj (Ya (by omega))
 simpa using this
theorem ZkB (hb: ∀(j:Nat) y,l[j]? =some y→p j y=false):Zhx p l=l.length:=by
 unfold Zhx
 have: ∀x∈l.zipIdx, ¬(p x.2 x.1=true):=by
  intro x hx e;obtain⟨i,hi⟩:=List.getElem?_of_mem hx;rw[List.getElem?_zipIdx] at hi;rcases hl:l[i]? with _|y
  · rw[hl] at hi;simp at hi
  · rw[hl] at hi
    obtain rfl:(y,0+i)=x:=by simpa using hi
    have:=hb i y hl
    simp at e;rw[this] at e
    cases e
 rw[List.findIdx_eq_length.2 (fun x hx=>by simpa using this x hx)];simp
theorem Zi9 (h:Zhx p l<l.length): ∃s,l[Zhx p l]? =some s∧p (Zhx p l) s=true:=by
 have hz:Zhx p l<l.zipIdx.length:=by simpa using h
 have:=List.findIdx_getElem (w:=hz)
 have key: ∀(k:Nat) (h:k<l.zipIdx.length),p l.zipIdx[k].2 l.zipIdx[k].1=true→p k (l[k]'(by simpa using h))=true:=fun k h e=>by simpa using e
 exact⟨l[Zhx p l],Ya h,key _ hz this⟩
theorem Zf5:Zhx p l<l.length↔ ∃(j:Nat) (y:Slt),l[j]? =some y∧p j y=true:=by
 constructor
 · intro h
   obtain⟨s,h1,h2⟩:=Zi9 h;exact⟨_,s,h1,h2⟩
 · rintro⟨j,y,h1,h2⟩
   rcases Yp (Zhx p l) l.length with h|h
   · exact h
   · exfalso
     have hj:=(Yj.1 h1).1
     have: ¬(j<Zhx p l):=fun hlt=>by
      have hz:j<l.zipIdx.findIdx fun x=>p x.2 x.1:=hlt;have h3:=List.not_of_lt_findIdx hz;obtain⟨_,rfl⟩:=Yj.1 h1;simp at h3;rw[h3] at h2
      cases h2
     omega
end
section
variable {l:List Slt} {k:Nat} {s:Slt} {h:Int}
end
def Zo (dE:Int→Int) (s:Slt):Bool:=(s.1&&s.good||!s.1&&(decide (0≤s.2.1∧s.2.1≤1099511627776)&&decide (s.2.2=0)))&&decide (dE (s.2.2:Nat)=0)
def Zcb (dE:Int→Int) (l:List Slt) (n:Int):Bool:=decide ((l.length:Int)=n∧1≤n∧n≤1024)&&l.all (Zo dE)
section
end
end
section
open Go.RowKit
theorem ZdR {w w':World} {B:Nat} {A:Option Addr} {c k:Nat} {l:List Slt} {s:Slt} (h:Sl w B 3 (.slice A l.length c) l.length (slc l)) (hb:Below B w w') (hx:l[k]? =some s):
 ∃b o,A=some ⟨b,o,none⟩∧b<B∧w'.cell? ⟨b,o+k * 3,none⟩=some (.bool s.1)∧w'.cell? ⟨b,o+k * 3+1,none⟩=some (.int .i64 s.2.1)∧w'.cell? ⟨b,o+k * 3+2,none⟩=some (.int .u64 (s.2.2:Nat)):=by
 have hk:k<l.length:=(Yj.1 hx).1;obtain⟨b,o,c',e,_,_,hlt,hc⟩:=(h.below hb).at_ (by omega)
 obtain⟨rfl,rfl⟩:A=some ⟨b,o,none⟩∧c=c':=by simpa using e
 obtain⟨h0,h1,h2⟩:=ZeW l k s hx;refine⟨b,o,rfl,hlt,hc _ _ h0,?_,?_⟩
 · have:=hc _ _ h1
   rwa [← Nat.add_assoc] at this
 · have:=hc _ _ h2
   rwa [← Nat.add_assoc] at this
theorem ZkZ:(Tryz.prog.info? 63).map (fun i=>(i.zero,i.size,i.bytes))=some (some (.agg #[.bool false,.int .i64 0,.int .u64 0]),3,24):=by kernel_rfl
def Zoo (l:List Slt):Prop:= ∀s∈l, -9223372036854775808≤s.2.1∧s.2.1≤9223372036854775807∧s.2.2<full
theorem Zoo.get {l:List Slt} (h:Zoo l) {k:Nat} {s:Slt} (hx:l[k]? =some s): -9223372036854775808≤s.2.1∧s.2.1≤9223372036854775807∧s.2.2<full:=h s (Yn hx)
section
variable {w:World} {g cap:Nat} {cur:Array Value} {l:List Slt} {k:Nat} {s:Slt}
end
def Zph (f:FuncId):Prop:= ∀(v:Value) (l:List Slt) (n:Int) (B:Nat) (w:World),Sl w B 3 v l.length (slc l)→B≤w.heap.size→l.length≤2000→Zoo l→
 Calls Tryz.prog f #[v,.int .i64 n] w fun e w'=>e=.returned (.bool (Zcb dE l n))∧Only nob w w'
end
section
open Go.RowKit
theorem Zl0 {s:Slt} (h1:0≤s.2.1) (h2:s.2.1<1099511627776):s.good=true:=Yl ⟨h1,h2⟩
theorem ZjD {s:Slt} (h: ¬(0≤s.2.1∧s.2.1<1099511627776)):s.good=false:=Yk h
theorem ZkW (w:World) (x:Int):Sl (w.alloc (.cells #[.int .i64 x] 3)) (w.heap.size+1) 1 (.slice (some ⟨w.heap.size,0,none⟩) 1 1) 1 (i64s [x]):=by
 have:=Sl.of_blk (size:=1) (n:=1) (c:=1) (Blk.new w 3 #[.int .i64 x]) (by simp) (Yi _) (by decide)
 simpa[i64s] using this
theorem Zng {l m:List Slt} (h:l.length≠m.length):l≠m:=fun e=>h (by rw[e])
theorem Zpj {l m:List Slt} {k:Nat} {x y:Slt} (hx:l[k]? =some x) (hy:m[k]? =some y) (h:x≠y):l≠m:=fun e=>h (by rw[e,hy] at hx;exact(Yo hx).symm)
theorem Zm4 {l m:List Slt} (hl:l.length=m.length) (h: ∀(j:Nat) x,j<l.length→l[j]? =some x→m[j]? =some x):l=m:=by
 refine List.ext_getElem? fun j=>?_;rcases Yp j l.length with hj|hj
 · rw[h j _ hj (Ya hj)]
   exact Ya hj
 · rw[List.getElem?_eq_none hj,List.getElem?_eq_none (by omega)]
theorem ZoT (a:Bool) (b:Int) (c:Nat) (a':Bool) (b':Int) (c':Nat) (w:World):(Op.equalIn 10000 63 (.agg #[.bool a,.int .i64 b,.int .u64 (c:Nat)]) (.agg #[.bool a',.int .i64 b',.int .u64 (c':Nat)])).run Tryz.prog w=.ok (decide ((a,b,c)=(a',b',c'))) w:=by
 have hS:Tryz.prog.underlying 63=some (.struct (Tryz.prog.fieldsOf 63)):=by kernel_rfl
 rw[show(10000:Nat)=9999+1 from rfl,run_equalIn_agg w 9999 63 _ _ hS (by kernel_rfl)];simp only[Program.fieldsOf,Tryz.underlying63];go_simp
 have e3:((c:Int)=(c':Int))↔c=c':=by omega
 by_cases h1:a=a' <;> by_cases h2:b=b' <;> by_cases h3:c=c' <;> simp[h1,h2,h3,e3]
theorem ZnN (va vb:Value) (l m:List Slt) (B B':Nat) (w:World) (ha:Sl w B 3 va l.length (slc l)) (hb:Sl w B' 3 vb m.length (slc m)):
 Calls Tryz.prog 36 #[va,vb] w fun e w'=>e=.returned (.bool (decide (l=m)))∧Only nob w w':=by
 have HA:=ZZ ha;have HB:=ZZ hb;obtain⟨A,ca,rfl,hac,ham, -⟩:=ha;obtain⟨A',cb,rfl,hbc,hbm, -⟩:=hb;unfold maxLen at ham hbm;by_cases hlen:l.length=m.length
 · have HL:=ZZ hlen
   rw[← hlen] at hbc ⊢;clear hlen
   go_enter Tryz.func36,Tryz.ntmps36
   go_wp2
   go_loopw [5] (fun i wr=> ∃k m':Nat,k≤l.length∧i=.int .i64 k∧Hid (∀(j:Nat) x,j<k→l[j]? =some x→m[j]? =some x)∧wr=w.drewN m') (fun i _=>l.length - (intOf i).toNat)
   case atStart=>exact⟨0,0,Yt _,rfl,fun j _ hj _=>absurd hj (Nat.not_lt_zero j),rfl⟩
   case round=>
    obtain⟨k,m',hk,rfl,hno,rfl⟩:=hrel;by_cases hlt:k<l.length
    · obtain⟨x,hx⟩: ∃x,l[k]? =some x:=⟨_,Ya hlt⟩
      obtain⟨y,hy⟩: ∃y,m[k]? =some y:=⟨_,Ya (by rw[← HL.out];exact hlt)⟩
      obtain⟨b1,o1,rfl, -,c0,c1,c2⟩:=ZdR HA.out (Below.refl _ _) hx;obtain⟨b2,o2,rfl, -,d0,d1,d2⟩:=ZdR HB.out (Below.refl _ _) hy;have HX:=ZZ hx;have HY:=ZZ hy;obtain⟨xa,xb,xc⟩:=x;obtain⟨ya,yb,yc⟩:=y;have heq:=ZoT xa xb xc ya yb yc;clear hx hy
      by_cases h1:(xa,xb,xc)=(ya,yb,yc)
      · rw[Yl h1] at heq
        have HE:=ZZ h1;clear h1;go_wp2
        go_quiet (fail)
        go_wp2
        go_roundw
        case rel=>
         refine⟨k+1,_,by omega,by go_num,fun j z hj hz=>?_,rfl⟩;rcases Yp j k with h'|h'
         · exact hno.out j z h' hz
         · obtain rfl:j=k:=by omega
           rw[HX.out] at hz;rw[HY.out, ← HE.out];exact hz
        case measure=>simp[intOf];omega
      · rw[Yk h1] at heq
        have HN:=ZZ (Yk (Zpj HX.out HY.out h1));clear h1;go_wp2
        go_quiet (fail)
        go_wp2;go_ret;exact⟨Za (by rw[HN.out]),((Only.refl _ _).drewN _).drewN _⟩
    · obtain rfl:k=l.length:=by omega
      have HN:=ZZ (Yl (Zm4 HL.out hno.out));go_wp2;go_ret;exact⟨Za (by rw[HN.out]),(Only.refl _ _).drewN _⟩
 · have HN:=ZZ (Yk (Zng hlen))
   have hn1: ¬((l.length:Int)=(m.length:Int)):=by omega
   go_enter Tryz.func36,Tryz.ntmps36
   go_wp2;go_ret;exact⟨Za (by rw[HN.out]),Only.refl _ _⟩
theorem ZfG {l:List Slt} {n:Int} (h: ¬((l.length:Int)=n∧1≤n∧n≤1024)):Zcb dE l n=false:=by unfold Zcb;rw[Yk h];rfl
theorem Zit {l:List Slt} {n:Int} (h:(l.length:Int)=n∧1≤n∧n≤1024) (ha: ∀(j:Nat) y,j<l.length→l[j]? =some y→Zo dE y=true):Zcb dE l n=true:=by
 unfold Zcb;rw[Yl h,Bool.true_and,List.all_eq_true];intro s hs;obtain⟨j,hj⟩:=List.getElem?_of_mem hs;exact ha j s (Yj.1 hj).1 hj
theorem Znt:dE 0=0:=by decide
theorem Zei {gn:Int} {x:Nat} (h:Slt.good (true,gn,x)=false):Zo dE (true,gn,x)=false:=by unfold Zo;simp[h]
theorem ZiW {gn:Int} {x:Nat} (h:Slt.good (true,gn,x)=true):Zo dE (true,gn,x)=decide (dE (x:Nat)=0):=by unfold Zo;simp[h]
theorem ZjQ {gn:Int} {x:Nat} (h: ¬(0≤gn∧gn≤1099511627776)):Zo dE (false,gn,x)=false:=by unfold Zo;simp;intro a b;omega
theorem Zio {gn:Int} {x:Nat} (h:x≠0):Zo dE (false,gn,x)=false:=by unfold Zo;simp[h]
theorem ZcA {gn:Int} (h:0≤gn∧gn≤1099511627776):Zo dE (false,gn,0)=true:=by unfold Zo;simp[h,Znt]
end
section
open Go.RowKit Go.Lib
theorem Zdc (s:Slt) (w:World): ∃W,w.alloc (.cells #[.bool s.1,.int .i64 s.2.1,.int .u64 (s.2.2:Nat)] 63)=W∧Hid (Only nob w W∧Blk W w.heap.size 63 #[.bool s.1,.int .i64 s.2.1,.int .u64 (s.2.2:Nat)]∧W.cell? ⟨w.heap.size,0,none⟩=some (.bool s.1)∧W.cell? ⟨w.heap.size,1,none⟩=some (.int .i64 s.2.1)∧W.cell? ⟨w.heap.size,2,none⟩=some (.int .u64 (s.2.2:Nat))):=by
 have hb:=Blk.new w 63 #[.bool s.1,.int .i64 s.2.1,.int .u64 (s.2.2:Nat)];exact⟨_,rfl,ZZ ⟨(Only.refl nob w).alloc _,hb,hb.cell 0,hb.cell 1,hb.cell 2⟩⟩
theorem Zh9 (s:Slt) (w:World):Calls Tryz.prog 188 #[.agg #[.bool s.1,.int .i64 s.2.1,.int .u64 (s.2.2:Nat)]] w fun e w'=>e=.returned (.bool s.good)∧Only nob w w':=by
 obtain⟨u,g,x⟩:=s;obtain⟨W,hW,HB⟩:=Zdc (u,g,x) w;have HW:=ZZ hW;obtain⟨-, -, -,c1, -⟩:=HB.out;simp only at c1;clear hW;by_cases h1:0≤g
 · by_cases h2:g<1099511627776
   · rw[Zl0 (s:=(u,g,x)) h1 h2]
     go_enter Tryz.func188,Tryz.ntmps188
     go_upto_region 1 with fail
     rw[HW.out];go_wp2;go_ret;exact⟨rfl,HB.out.1⟩
   · rw[ZjD (s:=(u,g,x)) (fun h=>h2 h.2)]
     go_enter Tryz.func188,Tryz.ntmps188
     go_upto_region 1 with fail
     rw[HW.out];go_wp2;go_ret;exact⟨rfl,HB.out.1⟩
 · rw[ZjD (s:=(u,g,x)) (fun h=>h1 h.1)]
   go_enter Tryz.func188,Tryz.ntmps188
   go_upto_region 1 with fail
   rw[HW.out];go_wp2;go_ret;exact⟨rfl,HB.out.1⟩
theorem ZdM (n:Int) (w:World):Calls Tryz.prog 84 #[.int .i64 n] w fun e w'=>e=.returned (.bool (decide (1≤n∧n≤1024)))∧Only nob w w':=by
 by_cases h1:1≤n
 · by_cases h2:n≤1024
   · rw[Yl (p:=1≤n∧n≤1024) ⟨h1,h2⟩]
     go_enter Tryz.func84,Tryz.ntmps84
     go_wp2;go_ret;exact⟨rfl,Only.refl _ _⟩
   · rw[Yk (p:=1≤n∧n≤1024) (fun h=>h2 h.2)]
     go_enter Tryz.func84,Tryz.ntmps84
     go_wp2;go_ret;exact⟨rfl,Only.refl _ _⟩
 · rw[Yk (p:=1≤n∧n≤1024) (fun h=>h1 h.1)]
   go_enter Tryz.func84,Tryz.ntmps84
   go_wp2;go_ret;exact⟨rfl,Only.refl _ _⟩
def Znp (g:FuncId) (lb:Array Value) (p:Slt→Bool) (w:World):Prop:=
 (∀args w,(callFunc g args).run Tryz.prog w=.ok (.enter g args) w)∧ ∀(s:Slt),(-9223372036854775808≤s.2.1∧s.2.1≤9223372036854775807∧s.2.2<full)→ ∀(W:World),Only nob w W→Calls Tryz.prog g (#[.agg #[.bool s.1,.int .i64 s.2.1,.int .u64 (s.2.2:Nat)]]++lb) W fun e w'=>e=.returned (.bool (p s))∧Only nob W w'
def Zpc (p:Slt→Bool) (l:List Slt):Nat:=Zhx (fun _ s=>p s) l
def ZmZ (p:Slt→Bool) (l:List Slt):Int:=if Zpc p l<l.length then(Zpc p l:Nat) else -1
theorem Zlb {p:Slt→Bool} {l:List Slt} {k:Nat} (hk:k<l.length) (h:Zpc p l=k):ZmZ p l=k:=by unfold ZmZ;rw[h,if_pos hk]
theorem ZjJ {p:Slt→Bool} {l:List Slt} (h:Zpc p l=l.length):ZmZ p l= -1:=by unfold ZmZ;rw[h,if_neg (Nat.lt_irrefl _)]
theorem Zma (p:Slt→Bool) (l:List Slt):decide (0≤ZmZ p l)=l.any p:=by
 unfold ZmZ Zpc;rcases Yp (Zhx (fun _ s=>p s) l) l.length with h|h
 · rw[if_pos h]
   obtain⟨s,h1,h2⟩:=Zi9 h
   have:l.any p=true:=List.any_eq_true.2 ⟨s,Yn h1,h2⟩
   rw[this,Yl (by omega)]
 · rw[if_neg (by omega)]
   have:l.any p=false:=by
    rw[List.any_eq_false];intro s hs e;obtain⟨j,hj⟩:=List.getElem?_of_mem hs
    have:=Zf5 (p:=fun _ s=>p s).2 ⟨j,s,hj,e⟩
    omega
   rw[this];rfl
theorem Zdu (g:FuncId) (lb:Array Value) (p:Slt→Bool) (v:Value) (l:List Slt) (B:Nat) (w:World) (hp:Znp g lb p w) (h:Sl w B 3 v l.length (slc l)) (hB:B≤w.heap.size) (hf:Zoo l):
 Calls Tryz.prog 189 #[v,.func (.func g) #[] lb] w fun e w'=>e=.returned (.int .i64 (ZmZ p l))∧Only nob w w':=by
 have HA:=ZZ h;have HF:=ZZ hf;have HP:=ZZ hp.2;have eg:=hp.1;obtain⟨A,ca,rfl,hac,ham, -⟩:=h;unfold maxLen at ham;clear hp hf
 go_enter Tryz.func189,Tryz.ntmps189
 go_wp2_with fail
 go_loopw [5,8] (fun _ i wr=> ∃k:Nat,k≤l.length∧i=.int .i64 k∧Hid (∀(j:Nat) y,j<k→l[j]? =some y→p y=false)∧Only nob w wr) (fun _ i _=>l.length - (intOf i).toNat)
 case atStart=>exact⟨0,Yt _,rfl,fun j _ hj _=>absurd hj (Nat.not_lt_zero j),Only.refl _ _⟩
 case round=>
  obtain⟨k,hk,rfl,hno,hO⟩:=hrel;have HX:=ZZ hO;by_cases hlt:k<l.length
  · obtain⟨x,hx⟩: ∃x,l[k]? =some x:=⟨_,Ya hlt⟩
    obtain⟨b,o,rfl,hb,c0,c1,c2⟩:=ZdR HA.out (hO.below hB fun _ h=>h.elim) hx;have HXX:=ZZ hx;clear hO hx
    cases hp:p x with
    |true=>
     have HQ:=ZZ hp;have HK:=ZZ (Zlb hlt (ZlN (p:=fun _ s=>p s) HXX.out hp fun j y hj hy=>hno.out j y hj hy));clear hp
     go_wp2_with fail
     refine(HP.out x (HF.out.get HXX.out) _ HX.out).mono ?_;rw[HQ.out];rintro e w1 ⟨rfl,ho⟩;have HO:=ZZ (HX.out.trans ho);clear ho;go_wp2;go_ret;exact⟨ZbF (by rw[HK.out]),HO.out⟩
    |false=>
     have HQ:=ZZ hp;clear hp
     go_wp2_with fail
     refine(HP.out x (HF.out.get HXX.out) _ HX.out).mono ?_;rw[HQ.out];rintro e w1 ⟨rfl,ho⟩;have HO:=ZZ (HX.out.trans ho);clear ho;go_wp2
     go_roundw
     case rel=>
      refine⟨k+1,by omega,by go_num,fun j y hj hy=>?_,HO.out⟩;rcases Yp j k with h'|h'
      · exact hno.out j y h' hy
      · obtain rfl:j=k:=by omega
        rw[HXX.out] at hy;obtain rfl:=Yo hy;exact HQ.out
     case measure=>simp[intOf];omega
  · obtain rfl:k=l.length:=by omega
    have HK:=ZZ (ZjJ (ZkB (p:=fun _ s=>p s) (l:=l) fun j y hy=>hno.out j y (Yj.1 hy).1 hy));clear hO;go_wp2;go_ret;exact⟨ZbF (by rw[HK.out]),HX.out⟩
theorem Zce (g:FuncId) (lb:Array Value) (p:Slt→Bool) (v:Value) (l:List Slt) (B:Nat) (w:World) (hp:Znp g lb p w) (h:Sl w B 3 v l.length (slc l)) (hB:B≤w.heap.size) (hf:Zoo l):
 Calls Tryz.prog 177 #[v,.func (.func g) #[] lb] w fun e w'=>e=.returned (.bool (l.any p))∧Only nob w w':=by
 have HA:=ZZ h;have HP:=ZZ hp;have HF:=ZZ hf;clear h hp hf;have HI:=ZZ (Zma p l)
 go_enter Tryz.func177,Tryz.ntmps177
 go_wp2_with fail
 go_at_call 189;refine(Zdu g lb p v l B w HP.out HA.out hB HF.out).mono ?_;rintro e w1 ⟨rfl,ho⟩;have HO:=ZZ ho
 obtain⟨i,hi⟩: ∃i,i=ZmZ p l:=⟨_,rfl⟩
 rw[← hi];have HII:=ZZ hi;clear ho hi;go_wp2;go_ret;exact⟨Za (by rw[← HI.out, ← HII.out]),HO.out⟩
theorem Zic (n:Nat):madeCells (Value.agg #[.bool false,.int .i64 0,.int .u64 0]).cells (n * 3)=(slc (List.replicate n ((false,0,0):Slt))).toArray:=by
 have hl:(slc (List.replicate n ((false,0,0):Slt))).length=n * 3:=by rw[ZaP,List.length_replicate]
 apply Array.ext
 · rw[size_madeCells];simp[hl]
 · intro i h1 h2
   rw[size_madeCells] at h1
   obtain⟨q,hq,hr⟩: ∃q,q<n∧(i=q * 3∨i=q * 3+1∨i=q * 3+2):=⟨i / 3,by omega,by omega⟩
   obtain⟨e0,e1,e2⟩:=ZeW (List.replicate n ((false,0,0):Slt)) q (false,0,0) (by rw[List.getElem?_replicate,if_pos hq])
   have key: ∀(i:Nat) (y:Value) (h2:i<(slc (List.replicate n ((false,0,0):Slt))).toArray.size),(slc (List.replicate n ((false,0,0):Slt)))[i]? =some y→(slc (List.replicate n ((false,0,0):Slt))).toArray[i]=y:=fun i y h2 h=>by
    simpa using(Yj.1 h).2
   rcases hr with rfl|rfl|rfl
   · rw[key _ _ h2 e0]
     simp only[madeCells,Array.getElem_map,Array.getElem_range];rw[show(Value.agg #[.bool false,.int .i64 0,.int .u64 0]).cells.size=3 from rfl,show q * 3 % 3=0 by omega];rfl
   · rw[key _ _ h2 e1]
     simp only[madeCells,Array.getElem_map,Array.getElem_range];rw[show(Value.agg #[.bool false,.int .i64 0,.int .u64 0]).cells.size=3 from rfl,show(q * 3+1) % 3=1 by omega];rfl
   · rw[key _ _ h2 e2]
     simp only[madeCells,Array.getElem_map,Array.getElem_range];rw[show(Value.agg #[.bool false,.int .i64 0,.int .u64 0]).cells.size=3 from rfl,show(q * 3+2) % 3=2 by omega];rfl
theorem Zeo (n:Nat) (hn:n≤1000000) (w:World):(Instr.makeSlice 32 (.int .i64 (n:Int)) (.int .i64 (n:Int))).run Tryz.prog w=.ok (.slice (some ⟨w.heap.size,0,none⟩) n n) (w.alloc (.cells (slc (List.replicate n ((false,0,0):Slt))).toArray 63)):=by
 obtain⟨i0,hi0,hz0,hz1,hz2⟩:=info_parts ZkZ;have h:=run_make (P:=Tryz.prog) w 32 63 i0 _ Tryz.underlying32 hi0 hz0 .i64 .i64 n n (by omega) (Int.le_refl _) (by rw[hz2];omega) (by omega);rw[h];simp only[Int.toNat_natCast,hz1,Zic n]
def Zpp (n:Int):Int:=if 1≤n∧n≤1024 then 0 else 1
def Zom (n:Int):List Slt:=if 1≤n∧n≤1024 then List.replicate n.toNat ((false,0,0):Slt) else[]
theorem Zjm {g:Int} (h: ¬(0≤g∧g<1099511627776)):Zo dE (false,g,0)=decide (g=1099511627776):=by
 by_cases e:g=1099511627776
 · rw[Yl e];exact ZcA (by omega)
 · rw[Yk e];exact ZjQ (by omega)
theorem Zgq (s:Slt) (hs:s.2.2<full) (w:World):Calls Tryz.prog 176 #[.agg #[.bool s.1,.int .i64 s.2.1,.int .u64 (s.2.2:Nat)]] w fun e w'=>e=.returned (.bool (Zo dE s))∧Only nob w w':=by
 obtain⟨u,g,x⟩:=s;obtain⟨W,hW,HB⟩:=Zdc (u,g,x) w;have HW:=ZZ hW;obtain⟨-,hblk,c0,c1,c2⟩:=HB.out;have HG:=ZZ (Zh9 (u,g,x))
 have hx63:0≤((x:Nat):Int)∧((x:Nat):Int)<18446744073709551616:=by unfold full at hs;simp only at hs;omega
 obtain⟨p,hp⟩: ∃p,p=w.heap.size:=⟨_,rfl⟩
 rw[← hp] at c0 c1 c2 hblk;have HP:=ZZ hp;have HBK:=ZZ hblk;simp only at c0 c1 c2;clear hW hp hs hblk;rcases u with _|_
 · by_cases hx0:x=0
   · have hxq:(((x:Nat):Int)==0)=true:=by simp[hx0]
     cases hg:Slt.good (false,g,x) with
     |true=>
      rw[hg] at HG;have HR:=ZZ (show Zo dE (false,g,x)=true by rw[hx0];exact ZcA (gn:=g) (by have:=of_decide_eq_true hg;simp only at this;omega));clear hg hx63 hx0
      go_enter Tryz.func176,Tryz.ntmps176
      go_upto_region 1 with fail
      rw[HW.out, ← HP.out]
      go_wp2_with fail
      go_at_call 188;refine(HG.out W).mono ?_;rintro e w1 ⟨rfl,o⟩;have O:=ZZ (HB.out.1.trans o);have d1:=o.keeps c1;clear o c0 c1 c2;go_wp2;go_ret;exact⟨Za (by rw[HR.out]),O.out⟩
     |false=>
      rw[hg] at HG;have HR:=ZZ (show Zo dE (false,g,x)=decide (g=1099511627776) by rw[hx0];exact Zjm (g:=g) (of_decide_eq_false hg));clear hg hx63 hx0;by_cases he:g=1099511627776
      · rw[Yl he] at HR
        have hbq:(g==1099511627776)=true:=by simpa using he
        clear he
        go_enter Tryz.func176,Tryz.ntmps176
        go_upto_region 1 with fail
        rw[HW.out, ← HP.out]
        go_wp2_with fail
        go_at_call 188;refine(HG.out W).mono ?_;rintro e w1 ⟨rfl,o⟩;have O:=ZZ (HB.out.1.trans o);have d1:=o.keeps c1;clear o c0 c1 c2;go_wp2;go_ret;exact⟨Za (by rw[HR.out]),O.out⟩
      · rw[Yk he] at HR
        have hbq:(g==1099511627776)=false:=by simpa using he
        go_enter Tryz.func176,Tryz.ntmps176
        go_upto_region 1 with fail
        rw[HW.out, ← HP.out]
        go_wp2_with fail
        go_at_call 188;refine(HG.out W).mono ?_;rintro e w1 ⟨rfl,o⟩;have O:=ZZ (HB.out.1.trans o);have d1:=o.keeps c1;clear o c0 c1 c2;go_wp2;go_ret;exact⟨Za (by rw[HR.out]),O.out⟩
   · have HR:=ZZ (Zio (gn:=g) hx0)
     have hbq:(((x:Nat):Int)==0)=false:=by simpa using hx0
     go_enter Tryz.func176,Tryz.ntmps176
     go_upto_region 1 with fail
     rw[HW.out, ← HP.out];go_wp2;go_ret;exact⟨Za (by rw[HR.out]),HB.out.1⟩
 · have HDEC:=ZZ (Zjs hx63)
   obtain⟨de,hde⟩: ∃de,de=dE (x:Nat):=⟨_,rfl⟩
   rw[← hde] at HDEC;have HSB:=ZZ (fun h=>Zei (gn:=g) (x:=x) h);have HSU:=ZZ (fun h=>(ZiW (gn:=g) (x:=x) h).trans (by rw[← hde]));clear hde hx63
   go_enter Tryz.func176,Tryz.ntmps176
   go_upto_region 1 with fail
   rw[HW.out, ← HP.out]
   go_wp2_with fail
   go_at_call 67;refine(HDEC.out W).mono ?_;rintro e w1 ⟨rfl,o⟩;have O1:=ZZ (HB.out.1.trans o);have HB1:=ZZ (HBK.out.keep o id);clear o c0 c1 c2;obtain⟨W3,hW3,H3⟩:=Zau w1 (dK (x:Nat)) (dX (x:Nat));have HW3:=ZZ hW3;have O3:=ZZ (O1.out.trans H3.out.1);have HB3:=ZZ (HB1.out.keep H3.out.1 id);have d0:=HB3.out.cell 0;have d1:=HB3.out.cell 1;have d2:=HB3.out.cell 2;simp at d0 d1 d2;clear hW3
   go_upto_region 4 with fail
   rw[HW3.out]
   cases hg:Slt.good (true,g,x) with
   |false=>
    rw[hg] at HG;have HR:=ZZ (HSB.out hg);clear hg
    go_wp2_with fail
    go_at_call 188;refine(HG.out W3).mono ?_;rintro e w4 ⟨rfl,o⟩;have O4:=ZZ (O3.out.trans o);clear o d0 d1 d2;go_wp2;go_ret;exact⟨Za (by rw[HR.out]),O4.out⟩
   |true=>
    rw[hg] at HG;have HR:=ZZ (HSU.out hg);clear hg
    go_wp2_with fail
    go_at_call 188;refine(HG.out W3).mono ?_;rintro e w4 ⟨rfl,o⟩;have O4:=ZZ (O3.out.trans o);clear o d0 d1 d2;by_cases hd:de=0
    · subst hd
      go_wp2;go_ret;exact⟨Za (by rw[HR.out];rfl),O4.out⟩
    · have hbq:(de==0)=false:=by simpa using hd
      rw[Yk hd] at HR;go_wp2;go_ret;exact⟨Za (by rw[HR.out]),O4.out⟩
theorem Zfx (s:Slt) (hs:s.2.2<full) (w:World):Calls Tryz.prog 175 #[.agg #[.bool s.1,.int .i64 s.2.1,.int .u64 (s.2.2:Nat)]] w fun e w'=>e=.returned (.bool (!Zo dE s))∧Only nob w w':=by
 obtain⟨W,hW,HB⟩:=Zdc s w;have HW:=ZZ hW;obtain⟨-,hblk,c0,c1,c2⟩:=HB.out;have HR:=ZZ (Zgq s hs W)
 obtain⟨q,hq⟩: ∃q,q=Zo dE s:=⟨_,rfl⟩
 have HQ:=ZZ hq;rw[← hq] at HR ⊢
 obtain⟨p,hp⟩: ∃p,p=w.heap.size:=⟨_,rfl⟩
 rw[← hp] at c0 c1 c2;have HP:=ZZ hp;clear hW hp hblk hq
 go_enter Tryz.func175,Tryz.ntmps175
 go_upto_region 1 with fail
 rw[HW.out, ← HP.out]
 go_wp2_with fail
 go_at_call 176;refine HR.out.mono ?_;rintro e w1 ⟨rfl,o⟩;have O:=ZZ (HB.out.1.trans o);clear o c0 c1 c2;go_wp2;go_ret;exact⟨rfl,O.out⟩
theorem Zif (w:World):Znp 175 #[] (fun s=>!Zo dE s) w:=
 ⟨enters_of Tryz.func175 (by kernel_rfl) rfl,fun s hs W _=>Zfx s hs.2.2 W⟩
theorem Zie {l:List Slt} {n:Int} (h1:1≤n∧n≤1024) (h2:(l.length:Int)=n):Zcb dE l n=!(l.any fun s=>!Zo dE s):=by
 unfold Zcb;rw[Yl ⟨h2,h1⟩,Bool.true_and,Bool.eq_iff_iff];simp
theorem Zgs:Zph 142:=by
 intro v l n B w hv hB hl hok;have HA:=ZZ hv;have HOK:=ZZ hok;have HC:=ZZ (ZdM n w);obtain⟨A,ca,rfl,hac,ham, -⟩:=hv;unfold maxLen at ham;clear hok;by_cases hn:1≤n∧n≤1024
 · rw[Yl hn] at HC
   by_cases hln:(l.length:Int)=n
   · have HR:=ZZ (Zie (l:=l) hn hln)
     obtain⟨q,hq⟩: ∃q,q=l.any fun s=>!Zo dE s:=⟨_,rfl⟩
     rw[← hq] at HR;have HQ:=ZZ hq
     obtain⟨r,hr⟩: ∃r,r=Zcb dE l n:=⟨_,rfl⟩
     rw[← hr] at HR ⊢;clear hq hn hr;subst hln
     go_enter Tryz.func142,Tryz.ntmps142
     go_wp2_with fail
     go_at_call 84;refine HC.out.mono ?_;rintro e w1 ⟨rfl,o⟩;have O:=ZZ o;clear o
     go_wp2_with fail
     go_at_call 177;refine(Zce _ #[] _ _ l B w1 (Zif w1) (HA.out.below (O.out.below hB fun _ h=>h.elim)) (Yh hB O.out.size) HOK.out).mono ?_;rw[← HQ.out];rintro e w2 ⟨rfl,o2⟩;have O2:=ZZ (O.out.trans o2);clear o2;go_wp2;go_ret;exact⟨Za (by rw[HR.out]),O2.out⟩
   · have HR:=ZZ (ZfG (l:=l) (n:=n) (fun h=>hln h.1))
     have hbq:((l.length:Int)==n)=false:=by simpa using hln
     clear hn
     go_enter Tryz.func142,Tryz.ntmps142
     go_wp2_with fail
     go_at_call 84;refine HC.out.mono ?_;rintro e w1 ⟨rfl,o⟩;have O:=ZZ o;clear o;go_wp2;go_ret;exact⟨Za (by rw[HR.out]),O.out⟩
 · rw[Yk hn] at HC
   have HR:=ZZ (ZfG (l:=l) (n:=n) (fun h=>hn h.2));clear hn
   go_enter Tryz.func142,Tryz.ntmps142
   go_wp2_with fail
   go_at_call 84;refine HC.out.mono ?_;rintro e w1 ⟨rfl,o⟩;have O:=ZZ o;clear o;go_wp2;go_ret;exact⟨Za (by rw[HR.out]),O.out⟩
end
end Go.Proofs.YtknoncenblehkaaGreatDoor
