/- A heap in plain words: its objects, the rules by which it ma The document's own answers for heaps: whether a word leads s -/
import Derived.Test.YtknoncenblehkaaGreatDoorG14
import Derived.Test.YtknoncenblehkaaGreatDoorG18
import Derived.Test.YtknoncenblehkaaGreatDoorG20
import Derived.Test.YtknoncenblehkaaGreatDoorG17
set_option maxRecDepth 100000
set_option maxHeartbeats 32000000
set_option linter.unusedSimpArgs false
set_option linter.unusedVariables false
namespace Go.Proofs.YtknoncenblehkaaGreatDoor
section
open Go.RowKit
structure St where
 cf:Cf
 sec:Bool
 ws:List Nat
 top:Int
 tb:List Sp
 fr:List Sp
 sl:List Slt
def St.frm (s:St):Sp:=Zj s.cf s.sec
def St.steps (s:St):List It:=Zad (hAr s.ws) s.frm s.top
def St.smalls (s:St):List Int:=wkL s.steps
def St.objs (s:St):List Int:=s.smalls++s.tb.map (·.1)
def idle (l:List Nat) (p:Int):Bool:=!ohM l p&&decide (ohC l p=0)
def leads (all:List Int) (x:Nat):Bool:=decide (dE x=0)&&(!decide (dK x=2)||ZaU all (dX x))
def r3 (s:St):Bool:=decide (s.frm.1≤s.top∧s.top≤s.frm.1+s.frm.2)
def low (c:Cf) (l:List Nat) (p:Int):Bool:=idle l p&&ZX c (osz (hAr l) p)
def r5 (s:St):Bool:=s.smalls.all (low s.cf s.ws)
def big (c:Cf) (l:List Nat) (x:Sp):Bool:=decide (ohE l x.1=0)&&(decide (osz (hAr l) x.1=x.2)&&(idle l x.1&&!ZX c x.2))
noncomputable def r6 (s:St):Bool:=decide (Zbm (Ze s.cf) s.tb s.fr)&&s.tb.all (big s.cf s.ws)
def r7 (s:St):Bool:=Zcb dE s.sl s.cf.slots
def Zcw (all:List Int) (l:List Nat) (p:Int):Bool:=(List.range (ohF l p).toNat).all fun k=>leads all (wd l (p+1+(k:Nat)).toNat)
def r8 (s:St):Bool:=s.objs.all (Zcw s.objs s.ws)
def r9 (s:St):Bool:=s.sl.all fun t=>!t.1||leads s.objs t.2.2
noncomputable def ZbW (s:St):Int:=
 if s.cf.ok then(if(s.ws.length:Int)=Zk s.cf then(if r3 s=true then(if wkE s.steps=0 then(if r5 s=true then(if r6 s=true then(if r7 s=true then(if r8 s=true then(if r9 s=true then 0 else 9) else 8) else 7) else 6) else 5) else 4) else 3) else 2) else 1
structure May15 (s:St):Prop where
 ok:s.cf.ok
 many:(s.ws.length:Int)=Zk s.cf
 top:r3 s=true
 walk:wkE s.steps=0
 low:r5 s=true
 big:r6 s=true
 slots:r7 s=true
 fields:r8 s=true
 leads:r9 s=true
theorem Zh2 {s:St}:ZbW s=0↔May15 s:=by
 constructor
 · intro h
   unfold ZbW at h
   repeat' split at h
   all_goals first|(exact⟨by assumption,by assumption,by assumption,by assumption,by assumption,by assumption,by assumption,by assumption,by assumption⟩)|cases h
 · rintro⟨h1,h2,h3,h4,h5,h6,h7,h8,h9⟩
   unfold ZbW;rw[if_pos h1,if_pos h2,if_pos h3,if_pos h4,if_pos h5,if_pos h6,if_pos h7,if_pos h8,if_pos h9]
theorem ZK {c:Cf} (h:c.ok) (b:Bool):0≤(Zj c b).1∧1≤(Zj c b).2∧(Zj c b).1+(Zj c b).2≤c.semi+c.semi∧(Zj c b).1≤32768∧(Zj c b).2≤32768:=by
 have h':=h;unfold Cf.ok at h;unfold Zj Zal;rcases b with _|_
 · simp only[Bool.false_eq_true,if_false,if_pos h'];omega
 · simp only[if_true,if_pos h'];omega
theorem ZbH (s:St):s.smalls.length≤32768:=by
 unfold St.smalls wkL
 split
 · rw[Zjf]
   unfold St.steps Zad
   split
   · rename_i hm
     have:=ZmF (Zez s.ws) (top:=s.top) s.frm.1
     unfold St.frm at hm this ⊢;by_cases hc:s.cf.ok
     · have hb:=ZK hc s.sec
       obtain⟨-,h1,h2⟩:=hm
       split at this <;> omega
     · exfalso
       have:Zj s.cf s.sec=(0,0):=by
        unfold Zj Zal;simp[hc]
       rw[this] at hm;obtain⟨⟨-,h1, -⟩, -⟩:=hm;simp at h1
   · simp
 · simp
theorem Zes {s:St} (h4:wkE s.steps=0) {p:Int} (hp:p∈s.smalls):ohE s.ws p=0:=by
 have hok:=Zl2 h4;have hats:s.smalls=ats s.steps:=(Zlz hok s.top).2.2;rw[hats] at hp;obtain⟨y,hy,rfl⟩:=List.mem_map.1 hp;have h0:=hok y hy;unfold St.steps Zad at hy
 split at hy
 · obtain⟨e1, -⟩:=ZoY (Zez _) _ y hy
   rw[e1,Zhe] at h0;exact(ZbZ h0).1
 · rw[Ys] at hy
   rw[hy] at h0;exact absurd h0 (by decide)
section
variable {s:St}
end
end
section
open Go.RowKit
structure Rd (w:World) (B:Nat) (s:St) (vw vt vf vs:Value):Prop where
 words:Sl w B 1 vw s.ws.length (u64s s.ws)
 tab:Sl w B 2 vt s.tb.length (spc s.tb)
 free:Sl w B 2 vf s.fr.length (spc s.fr)
 slots:Sl w B 3 vs s.sl.length (slc s.sl)
section
variable {w w':World} {B B':Nat} {s:St} {vw vt vf vs:Value}
theorem Rd.below (h:Rd w B s vw vt vf vs) (b:Below B w w'):Rd w' B s vw vt vf vs:=⟨h.words.below b,h.tab.below b,h.free.below b,h.slots.below b⟩
theorem Rd.more (h:Rd w B s vw vt vf vs) (b:B≤B'):Rd w B' s vw vt vf vs:=⟨h.words.more b,h.tab.more b,h.free.more b,h.slots.more b⟩
theorem Rd.only (h:Rd w B s vw vt vf vs) (o:Only nob w w') (hB:B≤w.heap.size):Rd w' B s vw vt vf vs:=h.below (o.below hB fun _ h=>h.elim)
end
def Zpq (l:List Sp):Prop:= ∀x∈l,I64 x.1∧I64 x.2
theorem Zpq.fits {l:List Sp} (h:Zpq l):ZfO l:=fun x hx=>(h x hx).1.2
structure StOk (s:St):Prop where
 cf:CFit s.cf
 ws:Zbt s.ws
 top:I64 s.top
 tb:Zpq s.tb
 fr:Zpq s.fr
 sl:Zoo s.sl
 few:s.ws.length≤98304∧s.tb.length≤1000∧s.fr.length≤1000∧s.sl.length≤2000
structure SBox (W:World) (b:Nat) (s:St) (vw vt vf vs:Value):Prop where
 c0:W.cell? ⟨b,0,none⟩=some (.int .i64 s.cf.semi)
 c1:W.cell? ⟨b,1,none⟩=some (.int .i64 s.cf.large)
 c2:W.cell? ⟨b,2,none⟩=some (.int .i64 s.cf.slots)
 c3:W.cell? ⟨b,3,none⟩=some (.int .i64 s.cf.limit)
 c4:W.cell? ⟨b,4,none⟩=some (.bool s.sec)
 c5:W.cell? ⟨b,5,none⟩=some vw
 c6:W.cell? ⟨b,6,none⟩=some (.int .i64 s.top)
 c7:W.cell? ⟨b,7,none⟩=some vt
 c8:W.cell? ⟨b,8,none⟩=some vf
 c9:W.cell? ⟨b,9,none⟩=some vs
section
variable {W W':World} {b:Nat} {s:St} {vw vt vf vs:Value}
theorem SBox.keep (h:SBox W b s vw vt vf vs) (o:Only nob W W'):SBox W' b s vw vt vf vs:=⟨o.keeps h.c0,o.keeps h.c1,o.keeps h.c2,o.keeps h.c3,o.keeps h.c4,o.keeps h.c5,o.keeps h.c6,o.keeps h.c7,o.keeps h.c8,o.keeps h.c9⟩
theorem SBox.of (h:Blk W b 34 #[.int .i64 s.cf.semi,.int .i64 s.cf.large,.int .i64 s.cf.slots,.int .i64 s.cf.limit,.bool s.sec,vw,.int .i64 s.top,vt,vf,vs]):SBox W b s vw vt vf vs:=⟨h.cell 0,h.cell 1,h.cell 2,h.cell 3,h.cell 4,h.cell 5,h.cell 6,h.cell 7,h.cell 8,h.cell 9⟩
theorem Za3 (w:World) (s:St) (vw vt vf vs:Value): ∃W,w.alloc (.cells #[.int .i64 s.cf.semi,.int .i64 s.cf.large,.int .i64 s.cf.slots,.int .i64 s.cf.limit,.bool s.sec,vw,.int .i64 s.top,vt,vf,vs] 34)=W∧Hid (Only nob w W∧Blk W w.heap.size 34 #[.int .i64 s.cf.semi,.int .i64 s.cf.large,.int .i64 s.cf.slots,.int .i64 s.cf.limit,.bool s.sec,vw,.int .i64 s.top,vt,vf,vs]∧SBox W w.heap.size s vw vt vf vs):=
 ⟨_,rfl,ZZ ⟨(Only.refl nob w).alloc _,Blk.new _ _ _,SBox.of (Blk.new _ _ _)⟩⟩
end
noncomputable instance (a b:St):Decidable (a=b):=Classical.propDecidable _
noncomputable def ZiX (a b:St):Bool:=decide (a=b)
theorem ZfR {a b:St} (h:a=b):ZiX a b=true:=by unfold ZiX;exact Yl h
theorem ZlS {a b:St} (h: ¬a=b):ZiX a b=false:=by unfold ZiX;exact Yk h
def Zp1:St:=⟨⟨0,0,0,0⟩,false,[],0,[],[],[]⟩
def Zmv (c:Cf):St:=if c.ok then⟨c,false,List.replicate (Zk c).toNat 0,0,[],if 0<c.large then[Ze c] else[],List.replicate c.slots.toNat (false,0,0)⟩ else Zp1
def Zmy (f:FuncId):Prop:= ∀(s:St) (vw vt vf vs:Value) (B:Nat) (w:World),Rd w B s vw vt vf vs→B≤w.heap.size→StOk s→Par w→
 Calls Tryz.prog f #[.agg #[.int .i64 s.cf.semi,.int .i64 s.cf.large,.int .i64 s.cf.slots,.int .i64 s.cf.limit,.bool s.sec,vw,.int .i64 s.top,vt,vf,vs]] w fun e w'=>e=.returned (.int .i64 (ZbW s))∧Only nob w w'
def Zpy (f:FuncId):Prop:= ∀(s t:St) (vw vt vf vs uw ut uf us:Value) (B B':Nat) (w:World),Rd w B s vw vt vf vs→Rd w B' t uw ut uf us→B≤w.heap.size→B'≤w.heap.size→
 Calls Tryz.prog f #[.agg #[.int .i64 s.cf.semi,.int .i64 s.cf.large,.int .i64 s.cf.slots,.int .i64 s.cf.limit,.bool s.sec,vw,.int .i64 s.top,vt,vf,vs],.agg #[.int .i64 t.cf.semi,.int .i64 t.cf.large,.int .i64 t.cf.slots,.int .i64 t.cf.limit,.bool t.sec,uw,.int .i64 t.top,ut,uf,us]] w fun e w'=>e=.returned (.bool (ZiX s t))∧Only nob w w'
end
section
open Go.RowKit
theorem Zcd {c:Cf} (h:c.ok):Zk c=c.semi+c.semi+c.large∧0≤Zk c∧Zk c≤98304:=by
 unfold Zk;rw[if_pos h];unfold Cf.ok at h;omega
theorem Zjz {c:Cf} (h:c.ok):Zmv c=⟨c,false,List.replicate (Zk c).toNat 0,0,[],if 0<c.large then[Ze c] else[],List.replicate c.slots.toNat (false,0,0)⟩:=by unfold Zmv;rw[if_pos h]
theorem ZfK {c:Cf} (h:c.ok) (h0:0<c.large):Sp.ok (Ze c):=by
 have h':=h;unfold Cf.ok at h';unfold Ze;rw[if_pos ⟨h,by omega⟩];unfold Sp.ok Za6;simp only;omega
theorem Zbx:Tryz.prog.follows .mixedOrders=true:=by kernel_rfl
theorem SBox.all {W:World} {b:Nat} {s:St} {vw vt vf vs:Value} (h:SBox W b s vw vt vf vs):
 (∀n os,(wat W n os).cell? ⟨b,0,none⟩=some (.int .i64 s.cf.semi))∧(∀n os,(wat W n os).cell? ⟨b,1,none⟩=some (.int .i64 s.cf.large))∧(∀n os,(wat W n os).cell? ⟨b,2,none⟩=some (.int .i64 s.cf.slots))∧(∀n os,(wat W n os).cell? ⟨b,3,none⟩=some (.int .i64 s.cf.limit))∧(∀n os,(wat W n os).cell? ⟨b,4,none⟩=some (.bool s.sec))∧(∀n os,(wat W n os).cell? ⟨b,5,none⟩=some vw)∧(∀n os,(wat W n os).cell? ⟨b,6,none⟩=some (.int .i64 s.top))∧(∀n os,(wat W n os).cell? ⟨b,7,none⟩=some vt)∧(∀n os,(wat W n os).cell? ⟨b,8,none⟩=some vf)∧(∀n os,(wat W n os).cell? ⟨b,9,none⟩=some vs):=
 ⟨Zh h.c0,Zh h.c1,Zh h.c2,Zh h.c3,Zh h.c4,Zh h.c5,Zh h.c6,Zh h.c7,Zh h.c8,Zh h.c9⟩
theorem Zfa {W:World} {b:Nat} {k f r:Int} {m:Bool} {c:Int} (h:Blk W b 108 #[.int .i64 k,.int .i64 f,.int .i64 r,.bool m,.int .i64 c]):
 (∀n os,(wat W n os).cell? ⟨b,0,none⟩=some (.int .i64 k))∧(∀n os,(wat W n os).cell? ⟨b,1,none⟩=some (.int .i64 f))∧(∀n os,(wat W n os).cell? ⟨b,2,none⟩=some (.int .i64 r))∧(∀n os,(wat W n os).cell? ⟨b,3,none⟩=some (.bool m))∧(∀n os,(wat W n os).cell? ⟨b,4,none⟩=some (.int .i64 c)):=by
 obtain⟨c0,c1,c2,c3,c4⟩:=Zz h;exact⟨Zh c0,Zh c1,Zh c2,Zh c3,Zh c4⟩
theorem Zb3 {α:Type} {p:α→Bool} {l:List α} {k:Nat} {x:α} (hx:l[k]? =some x) (hp:p x=false):l.all p=false:=by
 rw[List.all_eq_false];exact⟨x,Yn hx,by rw[hp];simp⟩
theorem Zc5 {α:Type} {p:α→Bool} {l:List α} (h: ∀(j:Nat) y,j<l.length→l[j]? =some y→p y=true):l.all p=true:=by
 rw[List.all_eq_true];intro x hx;obtain⟨j,hj⟩:=List.getElem?_of_mem hx;exact h j x (Yj.1 hj).1 hj
theorem ZbG {α:Type} {p:α→Bool} {l:List α} {k:Nat} {x:α} (h: ∀(j:Nat) y,j<k→l[j]? =some y→p y=true) (hx:l[k]? =some x) (hp:p x=true): ∀(j:Nat) y,j<k+1→l[j]? =some y→p y=true:=fun j y hj hy=>by
 rcases Yp j k with h'|h'
 · exact h j y h' hy
 · obtain rfl:j=k:=by omega
   rw[hx] at hy;obtain rfl:=Yo hy;exact hp
theorem Zm0 (l:List Nat) (a:Int) (h:ohE l a=0):hSz (ohK l a) (ohF l a) (ohR l a) (ohC l a)=osz (hAr l) a:=by
 have hm:=Zez l a h;unfold hSz osz;exact if_pos hm
theorem Zeq (s:St):0≤s.frm.1∧s.frm.1≤32768∧0≤s.frm.2∧s.frm.2≤32768:=by
 unfold St.frm;by_cases h:s.cf.ok
 · have:=ZK h s.sec
   omega
 · unfold Zj Zal
   simp[h]
theorem Z8 (w:World) (x y:Int): ∃W,w.alloc (.cells #[.int .i64 x,.int .i64 y] 61)=W∧Hid (Only nob w W∧Blk W w.heap.size 61 #[.int .i64 x,.int .i64 y]∧W.cell? ⟨w.heap.size,0,none⟩=some (.int .i64 x)∧W.cell? ⟨w.heap.size,1,none⟩=some (.int .i64 y)):=
 ⟨_,rfl,ZZ ⟨(Only.refl nob w).alloc _,Blk.new _ _ _,(Blk.new w 61 #[.int .i64 x,.int .i64 y]).cell 0,(Blk.new w 61 #[.int .i64 x,.int .i64 y]).cell 1⟩⟩
theorem Zm3 {l m:List Nat} (h:l.length≠m.length):l≠m:=fun e=>h (by rw[e])
theorem Zot {l m:List Nat} {k:Nat} {x y:Nat} (hx:l[k]? =some x) (hy:m[k]? =some y) (h:x≠y):l≠m:=fun e=>h (by rw[e,hy] at hx;exact(Yo hx).symm)
theorem Znu {l m:List Nat} (hl:l.length=m.length) (h: ∀(j:Nat) x,j<l.length→l[j]? =some x→m[j]? =some x):l=m:=by
 refine List.ext_getElem? fun j=>?_;rcases Yp j l.length with hj|hj
 · rw[h j _ hj (Ya hj)]
   exact Ya hj
 · rw[List.getElem?_eq_none hj,List.getElem?_eq_none (by omega)]
theorem Zdv {w w':World} {B:Nat} {A:Option Addr} {c k:Nat} {l:List Nat} {x:Nat} (h:Sl w B 1 (.slice A l.length c) l.length (u64s l)) (hb:Below B w w') (hx:l[k]? =some x):
 ∃b o,A=some ⟨b,o,none⟩∧b<B∧w'.cell? ⟨b,o+k,none⟩=some (.int .u64 (x:Nat)):=by
 have hk:k<l.length:=(Yj.1 hx).1;obtain⟨b,o,c',e,_,_,hlt,hc⟩:=(h.below hb).at_ (by omega)
 obtain⟨rfl,rfl⟩:A=some ⟨b,o,none⟩∧c=c':=by simpa using e
 refine⟨b,o,rfl,hlt,hc _ _ ?_⟩;simp[u64s,hx]
theorem Zpg (va vb:Value) (l m:List Nat) (B B':Nat) (w:World) (ha:Sl w B 1 va l.length (u64s l)) (hb:Sl w B' 1 vb m.length (u64s m)):
 Calls Tryz.prog 34 #[va,vb] w fun e w'=>e=.returned (.bool (decide (l=m)))∧Only nob w w':=by
 have HA:=ZZ ha;have HB:=ZZ hb;obtain⟨A,ca,rfl,hac,ham, -⟩:=ha;obtain⟨A',cb,rfl,hbc,hbm, -⟩:=hb;unfold maxLen at ham hbm;by_cases hlen:l.length=m.length
 · have HL:=ZZ hlen
   rw[← hlen] at hbc ⊢;clear hlen
   go_enter Tryz.func34,Tryz.ntmps34
   go_wp2
   go_loopw [5] (fun i wr=> ∃k m':Nat,k≤l.length∧i=.int .i64 k∧Hid (∀(j:Nat) x,j<k→l[j]? =some x→m[j]? =some x)∧wr=w.drewN m') (fun i _=>l.length - (intOf i).toNat)
   case atStart=>exact⟨0,0,Yt _,rfl,fun j _ hj _=>absurd hj (Nat.not_lt_zero j),rfl⟩
   case round=>
    obtain⟨k,m',hk,rfl,hno,rfl⟩:=hrel;by_cases hlt:k<l.length
    · obtain⟨x,hx⟩: ∃x,l[k]? =some x:=⟨_,Ya hlt⟩
      obtain⟨y,hy⟩: ∃y,m[k]? =some y:=⟨_,Ya (by rw[← HL.out];exact hlt)⟩
      obtain⟨b1,o1,rfl, -,c0⟩:=Zdv HA.out (Below.refl _ _) hx;obtain⟨b2,o2,rfl, -,d0⟩:=Zdv HB.out (Below.refl _ _) hy;have HX:=ZZ hx;have HY:=ZZ hy;clear hx hy;by_cases h1:x=y
      · subst h1
        go_wp2
        go_quiet (fail)
        go_wp2
        go_roundw
        case rel=>
         refine⟨k+1,_,by omega,by go_num,fun j z hj hz=>?_,rfl⟩;rcases Yp j k with h'|h'
         · exact hno.out j z h' hz
         · obtain rfl:j=k:=by omega
           rw[HX.out] at hz;rw[HY.out];exact hz
        case measure=>simp[intOf];omega
      · have HN:=ZZ (Yk (Zot HX.out HY.out h1))
        have hbq:(((x:Nat):Int) !=(y:Nat))=true:=by simp;omega
        clear h1;go_wp2
        go_quiet (fail)
        go_wp2;go_ret;exact⟨Za (by rw[HN.out]),((Only.refl _ _).drewN _).drewN _⟩
    · obtain rfl:k=l.length:=by omega
      have HN:=ZZ (Yl (Znu HL.out hno.out));go_wp2;go_ret;exact⟨Za (by rw[HN.out]),(Only.refl _ _).drewN _⟩
 · have HN:=ZZ (Yk (Zm3 hlen))
   have hn1: ¬((l.length:Int)=(m.length:Int)):=by omega
   go_enter Tryz.func34,Tryz.ntmps34
   go_wp2;go_ret;exact⟨Za (by rw[HN.out]),Only.refl _ _⟩
end
end Go.Proofs.YtknoncenblehkaaGreatDoor
