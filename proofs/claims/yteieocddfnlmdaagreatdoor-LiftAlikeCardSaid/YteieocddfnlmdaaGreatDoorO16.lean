/- Slots of a table of handles: cells, what is found, put, got, -/
import Derived.Test.YteieocddfnlmdaaGreatDoorO02
import Derived.Test.YteieocddfnlmdaaGreatDoorO03
import Derived.Deep.QuietTactic
import Derived.Laws.StructEq
import Derived.Deep.DeepCutAuto
import Derived.Deep.CutBlock
import Derived.Lib.SliceRun
import Derived.Shelf.Abstract
set_option maxRecDepth 100000
set_option maxHeartbeats 32000000
set_option linter.unusedSimpArgs false
set_option linter.unusedVariables false
namespace Go.Proofs.YteieocddfnlmdaaGreatDoor
section
open Go.RowKit
abbrev Slt:=Bool×Int×Nat
def Slt.good (s:Slt):Bool:=decide (0≤s.2.1∧s.2.1<1099511627776)
def slE (s:Slt):List Value:=[.bool s.1,.int .i64 s.2.1,.int .u64 (s.2.2:Nat)]
def slc (l:List Slt):List Value:=l.flatMap slE
theorem Ze9 (l:List Slt):(slc l).length=l.length * 3:=by
 induction l with
 |nil=>rfl
 |cons s l ih=>simp only[slc,List.flatMap_cons,Ys,List.length_cons,slE,List.length_nil] at ih ⊢;omega
theorem ZjJ: ∀(l:List Slt) (k:Nat) (s:Slt),l[k]? =some s→(slc l)[k * 3]? =some (.bool s.1)∧(slc l)[k * 3+1]? =some (.int .i64 s.2.1)∧(slc l)[k * 3+2]? =some (.int .u64 (s.2.2:Nat))
 |[],k,s,h=>by simp at h
 |y::l,0,s,h=>by
  obtain rfl:y=s:=by simpa using h
  exact⟨rfl,rfl,rfl⟩
 |y::l,k+1,s,h=>by
  have:=ZjJ l k s (by simpa using h)
  rw[show(k+1) * 3=k * 3+1+1+1 by omega];simpa[slc,slE] using this
theorem Zks (l:List Slt): ∀v∈slc l,v.oneCell'=true:=by
 intro v hv;simp only[slc,List.mem_flatMap,slE,List.mem_cons,List.not_mem_nil,or_false] at hv
 obtain⟨s,_,rfl|rfl|rfl⟩:=hv <;> rfl
def ZkW (p:Nat→Slt→Bool) (l:List Slt):Nat:=l.zipIdx.findIdx fun x=>p x.2 x.1
section
variable {p:Nat→Slt→Bool} {l:List Slt} {k:Nat} {s:Slt}
theorem Zqg (hx:l[k]? =some s) (hp:p k s=true) (hb: ∀(j:Nat) y,j<k→l[j]? =some y→p j y=false):ZkW p l=k:=by
 obtain⟨hk,rfl⟩:=Yk.1 hx;unfold ZkW;rw[List.findIdx_eq (by simpa using hk)];refine⟨by simpa using hp,fun j hj=>?_⟩
 have:=hb j _ hj (Ya (by omega))
 simpa using this
theorem Zne (hb: ∀(j:Nat) y,l[j]? =some y→p j y=false):ZkW p l=l.length:=by
 unfold ZkW
 have: ∀x∈l.zipIdx, ¬(p x.2 x.1=true):=by
  intro x hx e;obtain⟨i,hi⟩:=List.getElem?_of_mem hx;rw[List.getElem?_zipIdx] at hi;rcases hl:l[i]? with _|y
  · rw[hl] at hi;simp at hi
  · rw[hl] at hi
    obtain rfl:(y,0+i)=x:=by simpa using hi
    have:=hb i y hl
    simp at e;rw[this] at e
    cases e
 rw[List.findIdx_eq_length.2 (fun x hx=>by simpa using this x hx)];simp
theorem Zou (h:ZkW p l<l.length): ∃s,l[ZkW p l]? =some s∧p (ZkW p l) s=true:=by
 have hz:ZkW p l<l.zipIdx.length:=by simpa using h
 have:=List.findIdx_getElem (w:=hz)
 have key: ∀(k:Nat) (h:k<l.zipIdx.length),p l.zipIdx[k].2 l.zipIdx[k].1=true→p k (l[k]'(by simpa using h))=true:=fun k h e=>by simpa using e
 exact⟨l[ZkW p l],Ya h,key _ hz this⟩
theorem Zku:ZkW p l<l.length↔ ∃(j:Nat) (y:Slt),l[j]? =some y∧p j y=true:=by
 constructor
 · intro h
   obtain⟨s,h1,h2⟩:=Zou h;exact⟨_,s,h1,h2⟩
 · rintro⟨j,y,h1,h2⟩
   rcases Yq (ZkW p l) l.length with h|h
   · exact h
   · exfalso
     have hj:=(Yk.1 h1).1
     have: ¬(j<ZkW p l):=fun hlt=>by
      have hz:j<l.zipIdx.findIdx fun x=>p x.2 x.1:=hlt;have h3:=List.not_of_lt_findIdx hz;obtain⟨_,rfl⟩:=Yk.1 h1;simp at h3;rw[h3] at h2
      cases h2
     omega
end
section
variable {l:List Slt} {k:Nat} {s:Slt} {h:Int}
end
def Zr (dE:Int→Int) (s:Slt):Bool:=(s.1&&s.good||!s.1&&(decide (0≤s.2.1∧s.2.1≤1099511627776)&&decide (s.2.2=0)))&&decide (dE (s.2.2:Nat)=0)
def ZbR (dE:Int→Int) (l:List Slt) (n:Int):Bool:=decide ((l.length:Int)=n∧1≤n∧n≤1024)&&l.all (Zr dE)
section
end
end
section
open Go.RowKit
theorem Zdk {w w':World} {B:Nat} {A:Option Addr} {c k:Nat} {l:List Slt} {s:Slt} (h:Sl w B 3 (.slice A l.length c) l.length (slc l)) (hb:Below B w w') (hx:l[k]? =some s):
 ∃b o,A=some ⟨b,o,none⟩∧b<B∧w'.cell? ⟨b,o+k * 3,none⟩=some (.bool s.1)∧w'.cell? ⟨b,o+k * 3+1,none⟩=some (.int .i64 s.2.1)∧w'.cell? ⟨b,o+k * 3+2,none⟩=some (.int .u64 (s.2.2:Nat)):=by
 have hk:k<l.length:=(Yk.1 hx).1;obtain⟨b,o,c',e,_,_,hlt,hc⟩:=(h.below hb).at_ (by omega)
 obtain⟨rfl,rfl⟩:A=some ⟨b,o,none⟩∧c=c':=by simpa using e
 obtain⟨h0,h1,h2⟩:=ZjJ l k s hx;refine⟨b,o,rfl,hlt,hc _ _ h0,?_,?_⟩
 · have:=hc _ _ h1
   rwa [← Nat.add_assoc] at this
 · have:=hc _ _ h2
   rwa [← Nat.add_assoc] at this
theorem ZhX:(Tryz.prog.info? 61).map (fun i=>(i.zero,i.size,i.bytes))=some (some (.agg #[.bool false,.int .i64 0,.int .u64 0]),3,24):=by kernel_rfl
def Zom (l:List Slt):Prop:= ∀s∈l, -9223372036854775808≤s.2.1∧s.2.1≤9223372036854775807∧s.2.2<full
theorem Zom.get {l:List Slt} (h:Zom l) {k:Nat} {s:Slt} (hx:l[k]? =some s): -9223372036854775808≤s.2.1∧s.2.1≤9223372036854775807∧s.2.2<full:=h s (Yo hx)
section
variable {w:World} {g cap:Nat} {cur:Array Value} {l:List Slt} {k:Nat} {s:Slt}
end
def Zr4 (f:FuncId):Prop:= ∀(v:Value) (l:List Slt) (n:Int) (B:Nat) (w:World),Sl w B 3 v l.length (slc l)→B≤w.heap.size→l.length≤2000→Zom l→
 Calls Tryz.prog f #[v,.int .i64 n] w fun e w'=>e=.returned (.bool (ZbR dE l n))∧Only nob w w'
end
section
open Go.RowKit
theorem Zk2 {s:Slt} (h1:0≤s.2.1) (h2:s.2.1<1099511627776):s.good=true:=Ym ⟨h1,h2⟩
theorem Zhx {s:Slt} (h: ¬(0≤s.2.1∧s.2.1<1099511627776)):s.good=false:=Yl h
theorem Zva (s:Slt) (w:World):Calls Tryz.prog 114 #[.agg #[.bool s.1,.int .i64 s.2.1,.int .u64 (s.2.2:Nat)]] w fun e w'=>e=.returned (.bool s.good)∧Only nob w w':=by
 obtain⟨u,g,x⟩:=s
 obtain⟨W,hW,HB⟩: ∃W,w.alloc (.cells #[.bool u,.int .i64 g,.int .u64 (x:Nat)] 61)=W∧Hid (Only nob w W∧Blk W w.heap.size 61 #[.bool u,.int .i64 g,.int .u64 (x:Nat)]):=⟨_,rfl,ZZ ⟨(Only.refl nob w).alloc _,Blk.new _ _ _⟩⟩
 have HW:=ZZ hW;have c1:=HB.out.2.cell 1;simp at c1;clear hW;by_cases h1:0≤g
 · by_cases h2:g<1099511627776
   · rw[Zk2 (s:=(u,g,x)) h1 h2]
     go_enter Tryz.func114,Tryz.ntmps114
     go_upto_region 1 with fail
     rw[HW.out];go_wp2;go_ret;exact⟨rfl,HB.out.1⟩
   · rw[Zhx (s:=(u,g,x)) (fun h=>h2 h.2)]
     go_enter Tryz.func114,Tryz.ntmps114
     go_upto_region 1 with fail
     rw[HW.out];go_wp2;go_ret;exact⟨rfl,HB.out.1⟩
 · rw[Zhx (s:=(u,g,x)) (fun h=>h1 h.1)]
   go_enter Tryz.func114,Tryz.ntmps114
   go_upto_region 1 with fail
   rw[HW.out];go_wp2;go_ret;exact⟨rfl,HB.out.1⟩
theorem Zi1 (w:World) (x:Int):Sl (w.alloc (.cells #[.int .i64 x] 3)) (w.heap.size+1) 1 (.slice (some ⟨w.heap.size,0,none⟩) 1 1) 1 (i64s [x]):=by
 have:=Sl.of_blk (size:=1) (n:=1) (c:=1) (Blk.new w 3 #[.int .i64 x]) (by simp) (Yj _) (by decide)
 simpa[i64s] using this
theorem ZcJ {l:List Slt} {n:Int} (h: ¬((l.length:Int)=n∧1≤n∧n≤1024)):ZbR dE l n=false:=by unfold ZbR;rw[Yl h];rfl
theorem ZbJ {l:List Slt} {n:Int} {k:Nat} {s:Slt} (hx:l[k]? =some s) (hs:Zr dE s=false):ZbR dE l n=false:=by
 unfold ZbR
 have:l.all (Zr dE)=false:=by
  rw[List.all_eq_false];exact⟨s,Yo hx,by rw[hs];simp⟩
 rw[this,Bool.and_false]
theorem ZgB {l:List Slt} {n:Int} (h:(l.length:Int)=n∧1≤n∧n≤1024) (ha: ∀(j:Nat) y,j<l.length→l[j]? =some y→Zr dE y=true):ZbR dE l n=true:=by
 unfold ZbR;rw[Ym h,Bool.true_and,List.all_eq_true];intro s hs;obtain⟨j,hj⟩:=List.getElem?_of_mem hs;exact ha j s (Yk.1 hj).1 hj
theorem Zsz:dE 0=0:=by decide
theorem Zc7 {gn:Int} {x:Nat} (h:Slt.good (true,gn,x)=false):Zr dE (true,gn,x)=false:=by unfold Zr;simp[h]
theorem Zgq {gn:Int} {x:Nat} (h:Slt.good (true,gn,x)=true):Zr dE (true,gn,x)=decide (dE (x:Nat)=0):=by unfold Zr;simp[h]
theorem Zfz {gn:Int} {x:Nat} (h: ¬(0≤gn∧gn≤1099511627776)):Zr dE (false,gn,x)=false:=by unfold Zr;simp;intro a b;omega
theorem ZgR {gn:Int} {x:Nat} (h:x≠0):Zr dE (false,gn,x)=false:=by unfold Zr;simp[h]
theorem Zc0 {gn:Int} (h:0≤gn∧gn≤1099511627776):Zr dE (false,gn,0)=true:=by unfold Zr;simp[h,Zsz]
theorem Zgj {l:List Slt} {k:Nat} {s:Slt} (h: ∀(j:Nat) y,j<k→l[j]? =some y→Zr dE y=true) (hx:l[k]? =some s) (hp:Zr dE s=true): ∀(j:Nat) y,j<k+1→l[j]? =some y→Zr dE y=true:=fun j y hj hy=>by
 rcases Yq j k with h'|h'
 · exact h j y h' hy
 · obtain rfl:j=k:=by omega
   rw[hx] at hy;obtain rfl:=Yp hy;exact hp
theorem Zrl:Zr4 74:=by
 intro v l n B w hv hB hl hok;have HA:=ZZ hv;have HOK:=ZZ hok;obtain⟨A,ca,rfl,hac,ham, -⟩:=hv;unfold maxLen at ham;clear hok;by_cases hn:(l.length:Int)=n
 case neg=>
  have HR:=ZZ (ZcJ (l:=l) (n:=n) (fun h=>hn h.1))
  have hbq:((l.length:Int)==n)=false:=by simpa using hn
  go_enter Tryz.func74,Tryz.ntmps74
  go_wp2;go_ret;exact⟨Za (by rw[HR.out]),Only.refl _ _⟩
 case pos=>
  subst hn;by_cases h1:l.length<1
  · have HR:=ZZ (ZcJ (l:=l) (n:=l.length) (by omega))
    go_enter Tryz.func74,Tryz.ntmps74
    go_wp2;go_ret;exact⟨Za (by rw[HR.out]),Only.refl _ _⟩
  · by_cases h2:1024<l.length
    · have HR:=ZZ (ZcJ (l:=l) (n:=l.length) (by omega))
      go_enter Tryz.func74,Tryz.ntmps74
      go_wp2;go_ret;exact⟨Za (by rw[HR.out]),Only.refl _ _⟩
    · go_enter Tryz.func74,Tryz.ntmps74
      go_wp2_with fail
      go_loopw [5] (fun i wr=> ∃k:Nat,k≤l.length∧i=.int .i64 k∧Hid (∀(j:Nat) y,j<k→l[j]? =some y→Zr dE y=true)∧Hid (Only nob w wr)) (fun i _=>l.length - (intOf i).toNat)
      case atStart=>exact⟨0,Yu _,rfl,ZZ (fun j _ hj _=>absurd hj (Nat.not_lt_zero j)),ZZ (Only.refl _ _)⟩
      case round=>
       obtain⟨k,hk,rfl,HNO,HO⟩:=hrel;by_cases hlt:k<l.length
       · obtain⟨s,hx⟩: ∃s,l[k]? =some s:=⟨_,Ya hlt⟩
         obtain⟨b,o,rfl,hb,c0,c1,c2⟩:=Zdk HA.out (HO.out.below hB fun _ h=>h.elim) hx;have HX:=ZZ hx;obtain⟨-, -,hx64⟩:=HOK.out.get hx;obtain⟨u,gn,x⟩:=s;have hbr:b<wr.heap.size:=Yw hb (Yi hB HO.out.size)
         have hx63:0≤((x:Nat):Int)∧((x:Nat):Int)<18446744073709551616:=by unfold full at hx64;simp only at hx64;omega
         clear hx hx64;rcases u with _|_
         · by_cases g1:gn<0
           · have HR:=ZZ (ZbJ (n:=l.length) HX.out (Zfz (by omega)))
             go_wp2;go_ret;exact⟨Za (by rw[HR.out]),HO.out⟩
           · by_cases g2:1099511627776<gn
             · have HR:=ZZ (ZbJ (n:=l.length) HX.out (Zfz (by omega)))
               go_wp2;go_ret;exact⟨Za (by rw[HR.out]),HO.out⟩
             · by_cases hx0:x=0
               · subst hx0
                 have HN2:=ZZ (Zgj HNO.out HX.out (Zc0 (by omega)));clear hx63
                 go_wp2_with fail
                 go_at_call 36;refine(Zf3 wr).mono ?_;rintro e w1 ⟨rfl,o1⟩;have O1:=ZZ (HO.out.trans o1);clear o1 c0 c1 c2;go_wp2
                 go_roundw
                 case rel=>exact⟨k+1,by omega,by go_num,HN2,ZZ (O1.out.alloc _)⟩
                 case measure=>simp[intOf];omega
               · have HR:=ZZ (ZbJ (n:=l.length) HX.out (ZgR (gn:=gn) hx0))
                 have hbq:(((x:Nat):Int)==0)=false:=by simpa using hx0
                 go_wp2;go_ret;exact⟨Za (by rw[HR.out]),HO.out⟩
         · go_wp2_with fail
           go_at_call 114;refine(Zva (true,gn,x) wr).mono ?_;rcases hg:Slt.good (true,gn,x) with _|_
           · have HR:=ZZ (ZbJ (n:=l.length) HX.out (Zc7 hg))
             rintro e w1 ⟨rfl,o1⟩;have O1:=ZZ (HO.out.trans o1);clear o1 c0 c1 c2;go_wp2;go_ret;exact⟨Za (by rw[HR.out]),O1.out⟩
           · rintro e w1 ⟨rfl,o1⟩
             have O1:=ZZ (HO.out.trans o1);have d0:=o1.keeps c0;have d1:=o1.keeps c1;have d2:=o1.keeps c2;obtain⟨hg1,hg2⟩:=of_decide_eq_true hg;simp only at hg1 hg2;have HSL:=ZZ (Zgq hg);have HDEC:=ZZ (Zd2 hx63 w1)
             obtain⟨de,hde⟩: ∃de,de=dE (x:Nat):=⟨_,rfl⟩
             rw[← hde] at HDEC HSL;clear o1 c0 c1 c2 hg hx63 hde
             go_wp2_with fail
             go_at_call 36;refine HDEC.out.mono ?_;rintro e w2 ⟨rfl,o2⟩;have O2:=ZZ (O1.out.trans o2);clear o2 d0 d1 d2;by_cases hd:de=0
             · have HN2:=ZZ (Zgj HNO.out HX.out (HSL.out.trans (Ym hd)))
               subst hd;go_wp2
               go_roundw
               case rel=>exact⟨k+1,by omega,by go_num,HN2,ZZ (O2.out.alloc _)⟩
               case measure=>simp[intOf];omega
             · have HR:=ZZ (ZbJ (n:=l.length) HX.out (HSL.out.trans (Yl hd)))
               have hbq:(de==0)=false:=by simpa using hd
               go_wp2;go_ret;exact⟨Za (by rw[HR.out]),O2.out.alloc _⟩
       · obtain rfl:k=l.length:=by omega
         have HR:=ZZ (ZgB (l:=l) (n:=l.length) (by omega) HNO.out);go_wp2;go_ret;exact⟨Za (by rw[HR.out]),HO.out⟩
end
section
open Go.RowKit Go.Lib
theorem ZdC (s:Slt) (w:World): ∃W,w.alloc (.cells #[.bool s.1,.int .i64 s.2.1,.int .u64 (s.2.2:Nat)] 61)=W∧Hid (Only nob w W∧Blk W w.heap.size 61 #[.bool s.1,.int .i64 s.2.1,.int .u64 (s.2.2:Nat)]∧W.cell? ⟨w.heap.size,0,none⟩=some (.bool s.1)∧W.cell? ⟨w.heap.size,1,none⟩=some (.int .i64 s.2.1)∧W.cell? ⟨w.heap.size,2,none⟩=some (.int .u64 (s.2.2:Nat))):=by
 have hb:=Blk.new w 61 #[.bool s.1,.int .i64 s.2.1,.int .u64 (s.2.2:Nat)];exact⟨_,rfl,ZZ ⟨(Only.refl nob w).alloc _,hb,hb.cell 0,hb.cell 1,hb.cell 2⟩⟩
theorem ZlJ (s:Slt) (w:World):Calls Tryz.prog 233 #[.agg #[.bool s.1,.int .i64 s.2.1,.int .u64 (s.2.2:Nat)]] w fun e w'=>e=.returned (.bool s.good)∧Only nob w w':=by
 obtain⟨u,g,x⟩:=s;obtain⟨W,hW,HB⟩:=ZdC (u,g,x) w;have HW:=ZZ hW;obtain⟨-, -, -,c1, -⟩:=HB.out;simp only at c1;clear hW;by_cases h1:0≤g
 · by_cases h2:g<1099511627776
   · rw[Zk2 (s:=(u,g,x)) h1 h2]
     go_enter Tryz.func233,Tryz.ntmps233
     go_upto_region 1 with fail
     rw[HW.out];go_wp2;go_ret;exact⟨rfl,HB.out.1⟩
   · rw[Zhx (s:=(u,g,x)) (fun h=>h2 h.2)]
     go_enter Tryz.func233,Tryz.ntmps233
     go_upto_region 1 with fail
     rw[HW.out];go_wp2;go_ret;exact⟨rfl,HB.out.1⟩
 · rw[Zhx (s:=(u,g,x)) (fun h=>h1 h.1)]
   go_enter Tryz.func233,Tryz.ntmps233
   go_upto_region 1 with fail
   rw[HW.out];go_wp2;go_ret;exact⟨rfl,HB.out.1⟩
theorem Zfg (n:Int) (w:World):Calls Tryz.prog 98 #[.int .i64 n] w fun e w'=>e=.returned (.bool (decide (1≤n∧n≤1024)))∧Only nob w w':=by
 by_cases h1:1≤n
 · by_cases h2:n≤1024
   · rw[Ym (p:=1≤n∧n≤1024) ⟨h1,h2⟩]
     go_enter Tryz.func98,Tryz.ntmps98
     go_wp2;go_ret;exact⟨rfl,Only.refl _ _⟩
   · rw[Yl (p:=1≤n∧n≤1024) (fun h=>h2 h.2)]
     go_enter Tryz.func98,Tryz.ntmps98
     go_wp2;go_ret;exact⟨rfl,Only.refl _ _⟩
 · rw[Yl (p:=1≤n∧n≤1024) (fun h=>h1 h.1)]
   go_enter Tryz.func98,Tryz.ntmps98
   go_wp2;go_ret;exact⟨rfl,Only.refl _ _⟩
def Zsc (g:FuncId) (lb:Array Value) (p:Slt→Bool) (w:World):Prop:=
 (∀args w,(callFunc g args).run Tryz.prog w=.ok (.enter g args) w)∧ ∀(s:Slt),(-9223372036854775808≤s.2.1∧s.2.1≤9223372036854775807∧s.2.2<full)→ ∀(W:World),Only nob w W→Calls Tryz.prog g (#[.agg #[.bool s.1,.int .i64 s.2.1,.int .u64 (s.2.2:Nat)]]++lb) W fun e w'=>e=.returned (.bool (p s))∧Only nob W w'
def ZtO (p:Slt→Bool) (l:List Slt):Nat:=ZkW (fun _ s=>p s) l
def ZrV (p:Slt→Bool) (l:List Slt):Int:=if ZtO p l<l.length then(ZtO p l:Nat) else -1
theorem ZqL {p:Slt→Bool} {l:List Slt} {k:Nat} (hk:k<l.length) (h:ZtO p l=k):ZrV p l=k:=by unfold ZrV;rw[h,if_pos hk]
theorem Zon {p:Slt→Bool} {l:List Slt} (h:ZtO p l=l.length):ZrV p l= -1:=by unfold ZrV;rw[h,if_neg (Nat.lt_irrefl _)]
theorem Zp6 (p:Slt→Bool) (l:List Slt):decide (0≤ZrV p l)=l.any p:=by
 unfold ZrV ZtO;rcases Yq (ZkW (fun _ s=>p s) l) l.length with h|h
 · rw[if_pos h]
   obtain⟨s,h1,h2⟩:=Zou h
   have:l.any p=true:=List.any_eq_true.2 ⟨s,Yo h1,h2⟩
   rw[this,Ym (by omega)]
 · rw[if_neg (by omega)]
   have:l.any p=false:=by
    rw[List.any_eq_false];intro s hs e;obtain⟨j,hj⟩:=List.getElem?_of_mem hs
    have:=Zku (p:=fun _ s=>p s).2 ⟨j,s,hj,e⟩
    omega
   rw[this];rfl
theorem ZfI (g:FuncId) (lb:Array Value) (p:Slt→Bool) (v:Value) (l:List Slt) (B:Nat) (w:World) (hp:Zsc g lb p w) (h:Sl w B 3 v l.length (slc l)) (hB:B≤w.heap.size) (hf:Zom l):
 Calls Tryz.prog 234 #[v,.func (.func g) #[] lb] w fun e w'=>e=.returned (.int .i64 (ZrV p l))∧Only nob w w':=by
 have HA:=ZZ h;have HF:=ZZ hf;have HP:=ZZ hp.2;have eg:=hp.1;obtain⟨A,ca,rfl,hac,ham, -⟩:=h;unfold maxLen at ham;clear hp hf
 go_enter Tryz.func234,Tryz.ntmps234
 go_wp2_with fail
 go_loopw [5,8] (fun _ i wr=> ∃k:Nat,k≤l.length∧i=.int .i64 k∧Hid (∀(j:Nat) y,j<k→l[j]? =some y→p y=false)∧Only nob w wr) (fun _ i _=>l.length - (intOf i).toNat)
 case atStart=>exact⟨0,Yu _,rfl,fun j _ hj _=>absurd hj (Nat.not_lt_zero j),Only.refl _ _⟩
 case round=>
  obtain⟨k,hk,rfl,hno,hO⟩:=hrel;have HX:=ZZ hO;by_cases hlt:k<l.length
  · obtain⟨x,hx⟩: ∃x,l[k]? =some x:=⟨_,Ya hlt⟩
    obtain⟨b,o,rfl,hb,c0,c1,c2⟩:=Zdk HA.out (hO.below hB fun _ h=>h.elim) hx;have HXX:=ZZ hx;clear hO hx
    cases hp:p x with
    |true=>
     have HQ:=ZZ hp;have HK:=ZZ (ZqL hlt (Zqg (p:=fun _ s=>p s) HXX.out hp fun j y hj hy=>hno.out j y hj hy));clear hp
     go_wp2_with fail
     refine(HP.out x (HF.out.get HXX.out) _ HX.out).mono ?_;rw[HQ.out];rintro e w1 ⟨rfl,ho⟩;have HO:=ZZ (HX.out.trans ho);clear ho;go_wp2;go_ret;exact⟨Zcl (by rw[HK.out]),HO.out⟩
    |false=>
     have HQ:=ZZ hp;clear hp
     go_wp2_with fail
     refine(HP.out x (HF.out.get HXX.out) _ HX.out).mono ?_;rw[HQ.out];rintro e w1 ⟨rfl,ho⟩;have HO:=ZZ (HX.out.trans ho);clear ho;go_wp2
     go_roundw
     case rel=>
      refine⟨k+1,by omega,by go_num,fun j y hj hy=>?_,HO.out⟩;rcases Yq j k with h'|h'
      · exact hno.out j y h' hy
      · obtain rfl:j=k:=by omega
        rw[HXX.out] at hy;obtain rfl:=Yp hy;exact HQ.out
     case measure=>simp[intOf];omega
  · obtain rfl:k=l.length:=by omega
    have HK:=ZZ (Zon (Zne (p:=fun _ s=>p s) (l:=l) fun j y hy=>hno.out j y (Yk.1 hy).1 hy));clear hO;go_wp2;go_ret;exact⟨Zcl (by rw[HK.out]),HX.out⟩
theorem Zds (g:FuncId) (lb:Array Value) (p:Slt→Bool) (v:Value) (l:List Slt) (B:Nat) (w:World) (hp:Zsc g lb p w) (h:Sl w B 3 v l.length (slc l)) (hB:B≤w.heap.size) (hf:Zom l):
 Calls Tryz.prog 218 #[v,.func (.func g) #[] lb] w fun e w'=>e=.returned (.bool (l.any p))∧Only nob w w':=by
 have HA:=ZZ h;have HP:=ZZ hp;have HF:=ZZ hf;clear h hp hf;have HI:=ZZ (Zp6 p l)
 go_enter Tryz.func218,Tryz.ntmps218
 go_wp2_with fail
 go_at_call 234;refine(ZfI g lb p v l B w HP.out HA.out hB HF.out).mono ?_;rintro e w1 ⟨rfl,ho⟩;have HO:=ZZ ho
 obtain⟨i,hi⟩: ∃i,i=ZrV p l:=⟨_,rfl⟩
 rw[← hi];have HII:=ZZ hi;clear ho hi;go_wp2;go_ret;exact⟨Za (by rw[← HI.out, ← HII.out]),HO.out⟩
theorem Zj3 (v:Value) (l:List Slt) (B:Nat) (w:World) (h:Sl w B 3 v l.length (slc l)) (hB:B≤w.heap.size) (hl:l.length≤1000000):
 Calls Tryz.prog 55 #[v] w fun e w'=> ∃v',e=.returned v'∧w'.ownsRow w.heap.size 61 3 v' l.length (slc l)∧Only nob w w':=by
 obtain⟨i0,hi0,hz0,hz1,hz2⟩:=info_parts ZhX;have HA:=ZZ h;obtain⟨A,ca,rfl,hac,ham,hx,hs⟩:=h;unfold maxLen at ham;have q29: ∀(w:World) (n:Nat),(binOp .eql 26 (.slice A n ca) (.slice none 0 0)).run Tryz.prog w=.ok (.bool A.isNone) w:=fun w n=>Go.Lib.run_eql_slice_nil w _ _ A _ _ _ _ Tryz.underlying26;rcases A with _|ad
 · have h0:l.length=0:=by
    rcases Nat.eq_zero_or_pos l.length with h0|h0
    · exact h0
    · obtain⟨b,o,hA, -⟩:=hs h0;cases hA
   obtain rfl:l=[]:=List.eq_nil_of_length_eq_zero h0;clear hs hx h0
   go_enter Tryz.func55,Tryz.ntmps55
   go_wp2;go_ret;exact⟨_,rfl,World.ownsRow_nil _ _ _ _,Only.refl _ _⟩
 · have HS:=ZZ hs
   clear hs hx
   go_enter Tryz.func55,Tryz.ntmps55
   go_wp2_with (with_reducible refine Zf (o:=⟨some 7,_,_,_,_,_⟩) _ rfl (.tmp 5) (.tmp 6) _ rfl w.heap.size 61 i0 _ 3 24 Tryz.underlying26 hi0 hz0 hz1 hz2 rfl (by decide) (.slice (some ⟨w.heap.size,0,none⟩) 0 0) 0 [] rfl ?c1 B (.slice (some ad) l.length ca) l.length (slc l) rfl ?c6 (Zks _) ?c2 ?c3 ?c4 ?c5)
   case c1=>exact Zdf w _ _
   case c6=>exact HA.out.below (((Only.refl nob w).alloc _).below hB fun _ h=>h.elim)
   case c2=>unfold maxLen;omega
   case c3=>omega
   case c4=>simp
   case c5=>
    intro v1 w1 H1 o1 _;have O1:=ZZ (ZbA o1);clear o1;go_wp2;go_ret;exact⟨_,rfl,by simpa using H1.out,O1.out⟩
theorem Zmb (n:Nat):madeCells (Value.agg #[.bool false,.int .i64 0,.int .u64 0]).cells (n * 3)=(slc (List.replicate n ((false,0,0):Slt))).toArray:=by
 have hl:(slc (List.replicate n ((false,0,0):Slt))).length=n * 3:=by rw[Ze9,List.length_replicate]
 apply Array.ext
 · rw[size_madeCells];simp[hl]
 · intro i h1 h2
   rw[size_madeCells] at h1
   obtain⟨q,hq,hr⟩: ∃q,q<n∧(i=q * 3∨i=q * 3+1∨i=q * 3+2):=⟨i / 3,by omega,by omega⟩
   obtain⟨e0,e1,e2⟩:=ZjJ (List.replicate n ((false,0,0):Slt)) q (false,0,0) (by rw[List.getElem?_replicate,if_pos hq])
   have key: ∀(i:Nat) (y:Value) (h2:i<(slc (List.replicate n ((false,0,0):Slt))).toArray.size),(slc (List.replicate n ((false,0,0):Slt)))[i]? =some y→(slc (List.replicate n ((false,0,0):Slt))).toArray[i]=y:=fun i y h2 h=>by
    simpa using(Yk.1 h).2
   rcases hr with rfl|rfl|rfl
   · rw[key _ _ h2 e0]
     simp only[madeCells,Array.getElem_map,Array.getElem_range];rw[show(Value.agg #[.bool false,.int .i64 0,.int .u64 0]).cells.size=3 from rfl,show q * 3 % 3=0 by omega];rfl
   · rw[key _ _ h2 e1]
     simp only[madeCells,Array.getElem_map,Array.getElem_range];rw[show(Value.agg #[.bool false,.int .i64 0,.int .u64 0]).cells.size=3 from rfl,show(q * 3+1) % 3=1 by omega];rfl
   · rw[key _ _ h2 e2]
     simp only[madeCells,Array.getElem_map,Array.getElem_range];rw[show(Value.agg #[.bool false,.int .i64 0,.int .u64 0]).cells.size=3 from rfl,show(q * 3+2) % 3=2 by omega];rfl
theorem Zl7 (n:Nat) (hn:n≤1000000) (w:World):(Instr.makeSlice 26 (.int .i64 (n:Int)) (.int .i64 (n:Int))).run Tryz.prog w=.ok (.slice (some ⟨w.heap.size,0,none⟩) n n) (w.alloc (.cells (slc (List.replicate n ((false,0,0):Slt))).toArray 61)):=by
 obtain⟨i0,hi0,hz0,hz1,hz2⟩:=info_parts ZhX;have h:=run_make (P:=Tryz.prog) w 26 61 i0 _ Tryz.underlying26 hi0 hz0 .i64 .i64 n n (by omega) (Int.le_refl _) (by rw[hz2];omega) (by omega);rw[h];simp only[Int.toNat_natCast,hz1,Zmb n]
def ZuL (n:Int):Int:=if 1≤n∧n≤1024 then 0 else 1
def ZtG (n:Int):List Slt:=if 1≤n∧n≤1024 then List.replicate n.toNat ((false,0,0):Slt) else[]
theorem Zpg {g:Int} (h: ¬(0≤g∧g<1099511627776)):Zr dE (false,g,0)=decide (g=1099511627776):=by
 by_cases e:g=1099511627776
 · rw[Ym e];exact Zc0 (by omega)
 · rw[Yl e];exact Zfz (by omega)
theorem Zkd (s:Slt) (hs:s.2.2<full) (w:World):Calls Tryz.prog 217 #[.agg #[.bool s.1,.int .i64 s.2.1,.int .u64 (s.2.2:Nat)]] w fun e w'=>e=.returned (.bool (Zr dE s))∧Only nob w w':=by
 obtain⟨u,g,x⟩:=s;obtain⟨W,hW,HB⟩:=ZdC (u,g,x) w;have HW:=ZZ hW;obtain⟨-,hblk,c0,c1,c2⟩:=HB.out;have HG:=ZZ (ZlJ (u,g,x))
 have hx63:0≤((x:Nat):Int)∧((x:Nat):Int)<18446744073709551616:=by unfold full at hs;simp only at hs;omega
 obtain⟨p,hp⟩: ∃p,p=w.heap.size:=⟨_,rfl⟩
 rw[← hp] at c0 c1 c2 hblk;have HP:=ZZ hp;have HBK:=ZZ hblk;simp only at c0 c1 c2;clear hW hp hs hblk;rcases u with _|_
 · by_cases hx0:x=0
   · have hxq:(((x:Nat):Int)==0)=true:=by simp[hx0]
     cases hg:Slt.good (false,g,x) with
     |true=>
      rw[hg] at HG;have HR:=ZZ (show Zr dE (false,g,x)=true by rw[hx0];exact Zc0 (gn:=g) (by have:=of_decide_eq_true hg;simp only at this;omega));clear hg hx63 hx0
      go_enter Tryz.func217,Tryz.ntmps217
      go_upto_region 1 with fail
      rw[HW.out, ← HP.out]
      go_wp2_with fail
      go_at_call 233;refine(HG.out W).mono ?_;rintro e w1 ⟨rfl,o⟩;have O:=ZZ (HB.out.1.trans o);have d1:=o.keeps c1;clear o c0 c1 c2;go_wp2;go_ret;exact⟨Za (by rw[HR.out]),O.out⟩
     |false=>
      rw[hg] at HG;have HR:=ZZ (show Zr dE (false,g,x)=decide (g=1099511627776) by rw[hx0];exact Zpg (g:=g) (of_decide_eq_false hg));clear hg hx63 hx0;by_cases he:g=1099511627776
      · rw[Ym he] at HR
        have hbq:(g==1099511627776)=true:=by simpa using he
        clear he
        go_enter Tryz.func217,Tryz.ntmps217
        go_upto_region 1 with fail
        rw[HW.out, ← HP.out]
        go_wp2_with fail
        go_at_call 233;refine(HG.out W).mono ?_;rintro e w1 ⟨rfl,o⟩;have O:=ZZ (HB.out.1.trans o);have d1:=o.keeps c1;clear o c0 c1 c2;go_wp2;go_ret;exact⟨Za (by rw[HR.out]),O.out⟩
      · rw[Yl he] at HR
        have hbq:(g==1099511627776)=false:=by simpa using he
        go_enter Tryz.func217,Tryz.ntmps217
        go_upto_region 1 with fail
        rw[HW.out, ← HP.out]
        go_wp2_with fail
        go_at_call 233;refine(HG.out W).mono ?_;rintro e w1 ⟨rfl,o⟩;have O:=ZZ (HB.out.1.trans o);have d1:=o.keeps c1;clear o c0 c1 c2;go_wp2;go_ret;exact⟨Za (by rw[HR.out]),O.out⟩
   · have HR:=ZZ (ZgR (gn:=g) hx0)
     have hbq:(((x:Nat):Int)==0)=false:=by simpa using hx0
     go_enter Tryz.func217,Tryz.ntmps217
     go_upto_region 1 with fail
     rw[HW.out, ← HP.out];go_wp2;go_ret;exact⟨Za (by rw[HR.out]),HB.out.1⟩
 · have HDEC:=ZZ (Zj2 hx63)
   obtain⟨de,hde⟩: ∃de,de=dE (x:Nat):=⟨_,rfl⟩
   rw[← hde] at HDEC;have HSB:=ZZ (fun h=>Zc7 (gn:=g) (x:=x) h);have HSU:=ZZ (fun h=>(Zgq (gn:=g) (x:=x) h).trans (by rw[← hde]));clear hde hx63
   go_enter Tryz.func217,Tryz.ntmps217
   go_upto_region 1 with fail
   rw[HW.out, ← HP.out]
   go_wp2_with fail
   go_at_call 62;refine(HDEC.out W).mono ?_;rintro e w1 ⟨rfl,o⟩;have O1:=ZZ (HB.out.1.trans o);have HB1:=ZZ (HBK.out.keep o id);clear o c0 c1 c2;obtain⟨W3,hW3,H3⟩:=Zak w1 (dK (x:Nat)) (dX (x:Nat));have HW3:=ZZ hW3;have O3:=ZZ (O1.out.trans H3.out.1);have HB3:=ZZ (HB1.out.keep H3.out.1 id);have d0:=HB3.out.cell 0;have d1:=HB3.out.cell 1;have d2:=HB3.out.cell 2;simp at d0 d1 d2;clear hW3
   go_upto_region 4 with fail
   rw[HW3.out]
   cases hg:Slt.good (true,g,x) with
   |false=>
    rw[hg] at HG;have HR:=ZZ (HSB.out hg);clear hg
    go_wp2_with fail
    go_at_call 233;refine(HG.out W3).mono ?_;rintro e w4 ⟨rfl,o⟩;have O4:=ZZ (O3.out.trans o);clear o d0 d1 d2;go_wp2;go_ret;exact⟨Za (by rw[HR.out]),O4.out⟩
   |true=>
    rw[hg] at HG;have HR:=ZZ (HSU.out hg);clear hg
    go_wp2_with fail
    go_at_call 233;refine(HG.out W3).mono ?_;rintro e w4 ⟨rfl,o⟩;have O4:=ZZ (O3.out.trans o);clear o d0 d1 d2;by_cases hd:de=0
    · subst hd
      go_wp2;go_ret;exact⟨Za (by rw[HR.out];rfl),O4.out⟩
    · have hbq:(de==0)=false:=by simpa using hd
      rw[Yl hd] at HR;go_wp2;go_ret;exact⟨Za (by rw[HR.out]),O4.out⟩
theorem Ziw (s:Slt) (hs:s.2.2<full) (w:World):Calls Tryz.prog 216 #[.agg #[.bool s.1,.int .i64 s.2.1,.int .u64 (s.2.2:Nat)]] w fun e w'=>e=.returned (.bool (!Zr dE s))∧Only nob w w':=by
 obtain⟨W,hW,HB⟩:=ZdC s w;have HW:=ZZ hW;obtain⟨-,hblk,c0,c1,c2⟩:=HB.out;have HR:=ZZ (Zkd s hs W)
 obtain⟨q,hq⟩: ∃q,q=Zr dE s:=⟨_,rfl⟩
 have HQ:=ZZ hq;rw[← hq] at HR ⊢
 obtain⟨p,hp⟩: ∃p,p=w.heap.size:=⟨_,rfl⟩
 rw[← hp] at c0 c1 c2;have HP:=ZZ hp;clear hW hp hblk hq
 go_enter Tryz.func216,Tryz.ntmps216
 go_upto_region 1 with fail
 rw[HW.out, ← HP.out]
 go_wp2_with fail
 go_at_call 217;refine HR.out.mono ?_;rintro e w1 ⟨rfl,o⟩;have O:=ZZ (HB.out.1.trans o);clear o c0 c1 c2;go_wp2;go_ret;exact⟨rfl,O.out⟩
theorem Zmr (w:World):Zsc 216 #[] (fun s=>!Zr dE s) w:=
 ⟨enters_of Tryz.func216 (by kernel_rfl) rfl,fun s hs W _=>Ziw s hs.2.2 W⟩
theorem ZlU {l:List Slt} {n:Int} (h1:1≤n∧n≤1024) (h2:(l.length:Int)=n):ZbR dE l n=!(l.any fun s=>!Zr dE s):=by
 unfold ZbR;rw[Ym ⟨h2,h1⟩,Bool.true_and,Bool.eq_iff_iff];simp
theorem Zjl:Zr4 180:=by
 intro v l n B w hv hB hl hok;have HA:=ZZ hv;have HOK:=ZZ hok;have HC:=ZZ (Zfg n w);obtain⟨A,ca,rfl,hac,ham, -⟩:=hv;unfold maxLen at ham;clear hok;by_cases hn:1≤n∧n≤1024
 · rw[Ym hn] at HC
   by_cases hln:(l.length:Int)=n
   · have HR:=ZZ (ZlU (l:=l) hn hln)
     obtain⟨q,hq⟩: ∃q,q=l.any fun s=>!Zr dE s:=⟨_,rfl⟩
     rw[← hq] at HR;have HQ:=ZZ hq
     obtain⟨r,hr⟩: ∃r,r=ZbR dE l n:=⟨_,rfl⟩
     rw[← hr] at HR ⊢;clear hq hn hr;subst hln
     go_enter Tryz.func180,Tryz.ntmps180
     go_wp2_with fail
     go_at_call 98;refine HC.out.mono ?_;rintro e w1 ⟨rfl,o⟩;have O:=ZZ o;clear o
     go_wp2_with fail
     go_at_call 218;refine(Zds _ #[] _ _ l B w1 (Zmr w1) (HA.out.below (O.out.below hB fun _ h=>h.elim)) (Yi hB O.out.size) HOK.out).mono ?_;rw[← HQ.out];rintro e w2 ⟨rfl,o2⟩;have O2:=ZZ (O.out.trans o2);clear o2;go_wp2;go_ret;exact⟨Za (by rw[HR.out]),O2.out⟩
   · have HR:=ZZ (ZcJ (l:=l) (n:=n) (fun h=>hln h.1))
     have hbq:((l.length:Int)==n)=false:=by simpa using hln
     clear hn
     go_enter Tryz.func180,Tryz.ntmps180
     go_wp2_with fail
     go_at_call 98;refine HC.out.mono ?_;rintro e w1 ⟨rfl,o⟩;have O:=ZZ o;clear o;go_wp2;go_ret;exact⟨Za (by rw[HR.out]),O.out⟩
 · rw[Yl hn] at HC
   have HR:=ZZ (ZcJ (l:=l) (n:=n) (fun h=>hn h.2));clear hn
   go_enter Tryz.func180,Tryz.ntmps180
   go_wp2_with fail
   go_at_call 98;refine HC.out.mono ?_;rintro e w1 ⟨rfl,o⟩;have O:=ZZ o;clear o;go_wp2;go_ret;exact⟨Za (by rw[HR.out]),O.out⟩
end
end Go.Proofs.YteieocddfnlmdaaGreatDoor
