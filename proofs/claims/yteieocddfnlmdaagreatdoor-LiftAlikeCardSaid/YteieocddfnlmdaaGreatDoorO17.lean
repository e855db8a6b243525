/- A heap in plain words: its objects, the rules by which it ma -/
import Derived.Test.YteieocddfnlmdaaGreatDoorO12
import Derived.Test.YteieocddfnlmdaaGreatDoorO14
import Derived.Test.YteieocddfnlmdaaGreatDoorO16
set_option maxRecDepth 100000
set_option maxHeartbeats 32000000
set_option linter.unusedSimpArgs false
set_option linter.unusedVariables false
namespace Go.Proofs.YteieocddfnlmdaaGreatDoor
section
open Go.RowKit
structure St where
 cf:Cf
 sec:Bool
 ws:List Nat
 top:Int
 tb:List Sp
 fr:List Sp
 sl:List Slt
def St.frm (s:St):Sp:=ZR s.cf s.sec
def St.steps (s:St):List It:=ZH (hAr s.ws) s.frm s.top
def St.smalls (s:St):List Int:=wkL s.steps
def St.objs (s:St):List Int:=s.smalls++s.tb.map (·.1)
def ZrF (l:List Nat) (p:Int):Bool:=!ohM l p&&decide (ohC l p=0)
def leads (all:List Int) (x:Nat):Bool:=decide (dE x=0)&&(!decide (dK x=2)||Zan all (dX x))
def r3 (s:St):Bool:=decide (s.frm.1≤s.top∧s.top≤s.frm.1+s.frm.2)
def low (c:Cf) (l:List Nat) (p:Int):Bool:=ZrF l p&&ZaC c (osz (hAr l) p)
def r5 (s:St):Bool:=s.smalls.all (low s.cf s.ws)
def big (c:Cf) (l:List Nat) (x:Sp):Bool:=decide (ohE l x.1=0)&&(decide (osz (hAr l) x.1=x.2)&&(ZrF l x.1&&!ZaC c x.2))
noncomputable def r6 (s:St):Bool:=decide (Zah (Zo s.cf) s.tb s.fr)&&s.tb.all (big s.cf s.ws)
def r7 (s:St):Bool:=ZbR dE s.sl s.cf.slots
def Zck (all:List Int) (l:List Nat) (p:Int):Bool:=(List.range (ohF l p).toNat).all fun k=>leads all (wd l (p+1+(k:Nat)).toNat)
def r8 (s:St):Bool:=s.objs.all (Zck s.objs s.ws)
def r9 (s:St):Bool:=s.sl.all fun t=>!t.1||leads s.objs t.2.2
noncomputable def Zal (s:St):Int:=
 if s.cf.ok then(if(s.ws.length:Int)=Zs s.cf then(if r3 s=true then(if wkE s.steps=0 then(if r5 s=true then(if r6 s=true then(if r7 s=true then(if r8 s=true then(if r9 s=true then 0 else 9) else 8) else 7) else 6) else 5) else 4) else 3) else 2) else 1
structure May15 (s:St):Prop where
 ok:s.cf.ok
 many:(s.ws.length:Int)=Zs s.cf
 top:r3 s=true
 walk:wkE s.steps=0
 low:r5 s=true
 big:r6 s=true
 slots:r7 s=true
 fields:r8 s=true
 leads:r9 s=true
theorem ZaF {s:St}:Zal s=0↔May15 s:=by
 constructor
 · intro h
   unfold Zal at h
   repeat' split at h
   all_goals first|(exact⟨by assumption,by assumption,by assumption,by assumption,by assumption,by assumption,by assumption,by assumption,by assumption⟩)|cases h
 · rintro⟨h1,h2,h3,h4,h5,h6,h7,h8,h9⟩
   unfold Zal;rw[if_pos h1,if_pos h2,if_pos h3,if_pos h4,if_pos h5,if_pos h6,if_pos h7,if_pos h8,if_pos h9]
theorem Za2 {c:Cf} (h:c.ok) (b:Bool):0≤(ZR c b).1∧1≤(ZR c b).2∧(ZR c b).1+(ZR c b).2≤c.semi+c.semi∧(ZR c b).1≤32768∧(ZR c b).2≤32768:=by
 have h':=h;unfold Cf.ok at h;unfold ZR Zbx;rcases b with _|_
 · simp only[Bool.false_eq_true,if_false,if_pos h'];omega
 · simp only[if_true,if_pos h'];omega
theorem ZaB (s:St):s.smalls.length≤32768:=by
 unfold St.smalls wkL
 split
 · rw[Zg8]
   unfold St.steps ZH
   split
   · rename_i hm
     have:=Zpb (ZbB s.ws) (top:=s.top) s.frm.1
     unfold St.frm at hm this ⊢;by_cases hc:s.cf.ok
     · have hb:=Za2 hc s.sec
       obtain⟨-,h1,h2⟩:=hm
       split at this <;> omega
     · exfalso
       have:ZR s.cf s.sec=(0,0):=by
        unfold ZR Zbx;simp[hc]
       rw[this] at hm;obtain⟨⟨-,h1, -⟩, -⟩:=hm;simp at h1
   · simp
 · simp
theorem Zd0 {s:St} (h4:wkE s.steps=0) {p:Int} (hp:p∈s.smalls):ohE s.ws p=0:=by
 have hok:=Zg9 h4;have hats:s.smalls=ats s.steps:=(Zo2 hok s.top).2.2;rw[hats] at hp;obtain⟨y,hy,rfl⟩:=List.mem_map.1 hp;have h0:=hok y hy;unfold St.steps ZH at hy
 split at hy
 · obtain⟨e1, -⟩:=ZrU (ZbB _) _ y hy
   rw[e1,Zcd] at h0;exact(ZbG h0).1
 · rw[Yt] at hy
   rw[hy] at h0;exact absurd h0 (by decide)
section
variable {s:St}
theorem May15.may9 (h:May15 s):may9 s.frm s.top:=by
 have h1:=Za2 h.ok s.sec;have h2:=of_decide_eq_true h.top;unfold Proofs.YteieocddfnlmdaaGreatDoor.may9 Sp.ok most;unfold St.frm at h2 ⊢;omega
theorem May15.steps_tr (h:May15 s):s.steps=tr (hAr s.ws) s.top s.frm.1:=by
 unfold St.steps ZH;rw[if_pos h.may9]
theorem May15.steps_ok (h:May15 s): ∀y∈s.steps,y.e=0:=Zg9 h.walk
theorem May15.smalls_ats (h:May15 s):s.smalls=ats s.steps:=(Zo2 h.steps_ok s.top).2.2
theorem May15.head (h:May15 s) {p:Int} (hp:p∈s.objs):ohE s.ws p=0∧0≤p:=by
 have key:ohE s.ws p=0:=by
  unfold St.objs at hp;rcases Yr.1 hp with hp|hp
  · rw[h.smalls_ats] at hp
    obtain⟨y,hy,rfl⟩:=List.mem_map.1 hp;have h0:=h.steps_ok y hy;rw[h.steps_tr] at hy;obtain⟨e1, -⟩:=ZrU (ZbB _) _ y hy;rw[e1,Zcd] at h0;exact(ZbG h0).1
  · obtain⟨x,hx,rfl⟩:=List.mem_map.1 hp
    have h6:=h.big;unfold r6 at h6;rw[Bool.and_eq_true,List.all_eq_true] at h6
    have:=h6.2 x hx
    unfold Proofs.YteieocddfnlmdaaGreatDoor.big at this;rw[Bool.and_eq_true,decide_eq_true_iff] at this;exact this.1
 refine⟨key,?_⟩;obtain⟨n,rfl, -⟩:=Zqz key;omega
theorem May15.far (h:May15 s) {p:Int} (hp:p∈s.objs): ∃n:Nat,p=n∧n<s.ws.length∧p+osz (hAr s.ws) p≤s.ws.length∧0≤ohF s.ws p∧0≤ohR s.ws p:=by
 obtain⟨h0, -⟩:=h.head hp;obtain⟨n,rfl,hb⟩:=Zqz h0;obtain⟨-, -,h3,h4, -⟩:=Zk7 hb;have hf:=hb.far;have ha:=ZbB s.ws n h0;have hm:=Zav.1 ha;refine⟨n,rfl,hb.there,?_,?_,?_⟩
 · show(n:Int)+(1+ohF s.ws n+ohR s.ws n)≤_
   rw[h3,h4];omega
 · have:(0:Int)≤(hAr s.ws n).f:=by omega
   exact this
 · have:(0:Int)≤(hAr s.ws n).r:=by omega
   exact this
end
end
section
open Go.RowKit
structure Rd (w:World) (B:Nat) (s:St) (vw vt vf vs:Value):Prop where
 words:Sl w B 1 vw s.ws.length (u64s s.ws)
 tab:Sl w B 2 vt s.tb.length (spc s.tb)
 free:Sl w B 2 vf s.fr.length (spc s.fr)
 slots:Sl w B 3 vs s.sl.length (slc s.sl)
section
variable {w w':World} {B B':Nat} {s:St} {vw vt vf vs:Value}
theorem Rd.below (h:Rd w B s vw vt vf vs) (b:Below B w w'):Rd w' B s vw vt vf vs:=⟨h.words.below b,h.tab.below b,h.free.below b,h.slots.below b⟩
theorem Rd.more (h:Rd w B s vw vt vf vs) (b:B≤B'):Rd w B' s vw vt vf vs:=⟨h.words.more b,h.tab.more b,h.free.more b,h.slots.more b⟩
theorem Rd.only (h:Rd w B s vw vt vf vs) (o:Only nob w w') (hB:B≤w.heap.size):Rd w' B s vw vt vf vs:=h.below (o.below hB fun _ h=>h.elim)
end
def Zrh (l:List Sp):Prop:= ∀x∈l,I64 x.1∧I64 x.2
theorem Zrh.fits {l:List Sp} (h:Zrh l):ZjQ l:=fun x hx=>(h x hx).1.2
structure StOk (s:St):Prop where
 cf:CFit s.cf
 ws:Za1 s.ws
 top:I64 s.top
 tb:Zrh s.tb
 fr:Zrh s.fr
 sl:Zom s.sl
 few:s.ws.length≤98304∧s.tb.length≤1000∧s.fr.length≤1000∧s.sl.length≤2000
structure SBox (W:World) (b:Nat) (s:St) (vw vt vf vs:Value):Prop where
 c0:W.cell? ⟨b,0,none⟩=some (.int .i64 s.cf.semi)
 c1:W.cell? ⟨b,1,none⟩=some (.int .i64 s.cf.large)
 c2:W.cell? ⟨b,2,none⟩=some (.int .i64 s.cf.slots)
 c3:W.cell? ⟨b,3,none⟩=some (.int .i64 s.cf.limit)
 c4:W.cell? ⟨b,4,none⟩=some (.bool s.sec)
 c5:W.cell? ⟨b,5,none⟩=some vw
 c6:W.cell? ⟨b,6,none⟩=some (.int .i64 s.top)
 c7:W.cell? ⟨b,7,none⟩=some vt
 c8:W.cell? ⟨b,8,none⟩=some vf
 c9:W.cell? ⟨b,9,none⟩=some vs
section
variable {W W':World} {b:Nat} {s:St} {vw vt vf vs:Value}
theorem SBox.keep (h:SBox W b s vw vt vf vs) (o:Only nob W W'):SBox W' b s vw vt vf vs:=⟨o.keeps h.c0,o.keeps h.c1,o.keeps h.c2,o.keeps h.c3,o.keeps h.c4,o.keeps h.c5,o.keeps h.c6,o.keeps h.c7,o.keeps h.c8,o.keeps h.c9⟩
theorem SBox.keepF {F:Nat→Prop} (h:SBox W b s vw vt vf vs) (o:Only F W W') (hn: ¬F b):SBox W' b s vw vt vf vs:=
 have hb:b<W.heap.size:=World.block_lt_of_cell? W _ h.c0;have k: ∀{i:Nat} {v:Value},W.cell? ⟨b,i,none⟩=some v→W'.cell? ⟨b,i,none⟩=some v:=fun {i _} hc=>(o.cell (p:=⟨b,i,none⟩) hb hn).trans hc
 ⟨k h.c0,k h.c1,k h.c2,k h.c3,k h.c4,k h.c5,k h.c6,k h.c7,k h.c8,k h.c9⟩
theorem SBox.of (h:Blk W b 28 #[.int .i64 s.cf.semi,.int .i64 s.cf.large,.int .i64 s.cf.slots,.int .i64 s.cf.limit,.bool s.sec,vw,.int .i64 s.top,vt,vf,vs]):SBox W b s vw vt vf vs:=⟨h.cell 0,h.cell 1,h.cell 2,h.cell 3,h.cell 4,h.cell 5,h.cell 6,h.cell 7,h.cell 8,h.cell 9⟩
theorem Zu (w:World) (s:St) (vw vt vf vs:Value): ∃W,w.alloc (.cells #[.int .i64 s.cf.semi,.int .i64 s.cf.large,.int .i64 s.cf.slots,.int .i64 s.cf.limit,.bool s.sec,vw,.int .i64 s.top,vt,vf,vs] 28)=W∧Hid (Only nob w W∧Blk W w.heap.size 28 #[.int .i64 s.cf.semi,.int .i64 s.cf.large,.int .i64 s.cf.slots,.int .i64 s.cf.limit,.bool s.sec,vw,.int .i64 s.top,vt,vf,vs]∧SBox W w.heap.size s vw vt vf vs):=
 ⟨_,rfl,ZZ ⟨(Only.refl nob w).alloc _,Blk.new _ _ _,SBox.of (Blk.new _ _ _)⟩⟩
end
noncomputable def obE (s:St):Int:=if Zal s=0 then 0 else 4
noncomputable def obL (s:St):List Int:=if Zal s=0 then s.objs else[]
noncomputable instance (a b:St):Decidable (a=b):=Classical.propDecidable _
def Zvq:St:=⟨⟨0,0,0,0⟩,false,[],0,[],[],[]⟩
def ZtD (c:Cf):St:=if c.ok then⟨c,false,List.replicate (Zs c).toNat 0,0,[],if 0<c.large then[Zo c] else[],List.replicate c.slots.toNat (false,0,0)⟩ else Zvq
def ZoL (f:FuncId):Prop:= ∀(s:St) (vw vt vf vs:Value) (B:Nat) (w:World),Rd w B s vw vt vf vs→B≤w.heap.size→StOk s→Par w→
 Calls Tryz.prog f #[.agg #[.int .i64 s.cf.semi,.int .i64 s.cf.large,.int .i64 s.cf.slots,.int .i64 s.cf.limit,.bool s.sec,vw,.int .i64 s.top,vt,vf,vs]] w fun e w'=>e=.returned (.int .i64 (Zal s))∧Only nob w w'
def Zla (f:FuncId):Prop:= ∀(s:St) (vw vt vf vs:Value) (B:Nat) (w:World),Rd w B s vw vt vf vs→B≤w.heap.size→StOk s→Par w→
 Calls Tryz.prog f #[.agg #[.int .i64 s.cf.semi,.int .i64 s.cf.large,.int .i64 s.cf.slots,.int .i64 s.cf.limit,.bool s.sec,vw,.int .i64 s.top,vt,vf,vs]] w fun e w'=> ∃v',e=.returned (.tuple #[v',.int .i64 (obE s)])∧Sl w' w'.heap.size 1 v' (obL s).length (i64s (obL s))∧Only nob w w'
def Zu2 (f:FuncId):Prop:= ∀(s:St) (a:Int) (vw vt vf vs:Value) (B:Nat) (w:World),Rd w B s vw vt vf vs→B≤w.heap.size→StOk s→Par w→
 Calls Tryz.prog f #[.agg #[.int .i64 s.cf.semi,.int .i64 s.cf.large,.int .i64 s.cf.slots,.int .i64 s.cf.limit,.bool s.sec,vw,.int .i64 s.top,vt,vf,vs],.int .i64 a] w fun e w'=>e=.returned (.tuple #[.agg #[.int .i64 (ohK s.ws a),.int .i64 (ohF s.ws a),.int .i64 (ohR s.ws a),.bool (ohM s.ws a),.int .i64 (ohC s.ws a)],.int .i64 (ohE s.ws a)])∧Only nob w w'
structure Own4 (w:World) (base:Nat) (s:St) (vw vt vf vs:Value):Prop where
 words:w.ownsRow base 48 1 vw s.ws.length (u64s s.ws)
 tab:w.ownsRow base 51 2 vt s.tb.length (spc s.tb)
 free:w.ownsRow base 51 2 vf s.fr.length (spc s.fr)
 slots:w.ownsRow base 61 3 vs s.sl.length (slc s.sl)
 apart: ∀k,vt.ownBlock=some k→vf.ownBlock≠some k
def ZuJ (f:FuncId):Prop:= ∀(s:St) (vw vt vf vs:Value) (B:Nat) (w:World),Rd w B s vw vt vf vs→B≤w.heap.size→StOk s→
 Calls Tryz.prog f #[.agg #[.int .i64 s.cf.semi,.int .i64 s.cf.large,.int .i64 s.cf.slots,.int .i64 s.cf.limit,.bool s.sec,vw,.int .i64 s.top,vt,vf,vs]] w fun e w'=> ∃uw ut uf us,e=.returned (.agg #[.int .i64 s.cf.semi,.int .i64 s.cf.large,.int .i64 s.cf.slots,.int .i64 s.cf.limit,.bool s.sec,uw,.int .i64 s.top,ut,uf,us])∧Own4 w' w.heap.size s uw ut uf us∧Only nob w w'
end
section
open Go.RowKit
theorem Zcq {c:Cf} (h:c.ok):Zs c=c.semi+c.semi+c.large∧0≤Zs c∧Zs c≤98304:=by
 unfold Zs;rw[if_pos h];unfold Cf.ok at h;omega
theorem Zfp {c:Cf} (h:c.ok):ZR c false=(0,c.semi):=by
 unfold ZR Zbx;simp[h]
theorem Zkl {x:Sp} (h: ¬x.ok):Zah x [] []:=
 ⟨(fun _ h=>by cases h),List.Pairwise.nil,⟨(fun _ h=>by cases h),List.Pairwise.nil⟩,⟨(fun _ h=>by cases h),List.Pairwise.nil⟩,fun p=>⟨fun ⟨_,h,_⟩=>(by cases h),fun ⟨h1,_⟩=>absurd h1.1 h⟩⟩
theorem ZlZ {x:Sp} (h:x.ok):Zah x [] [x]:=
 ⟨(fun _ h=>by cases h),List.Pairwise.nil,⟨(fun _ h=>by cases h),List.Pairwise.nil⟩,⟨(fun y hy=>by rw[Yt.1 hy];exact h),List.pairwise_singleton _ _⟩,fun p=>⟨fun ⟨y,hy,hp⟩=>⟨by rw[← Yt.1 hy];exact hp,fun ⟨_,h,_⟩=>by cases h⟩,fun ⟨h1,_⟩=>⟨x,Yt.2 rfl,h1⟩⟩⟩
theorem Zjq {c:Cf} (h:c.ok):ZtD c=⟨c,false,List.replicate (Zs c).toNat 0,0,[],if 0<c.large then[Zo c] else[],List.replicate c.slots.toNat (false,0,0)⟩:=by unfold ZtD;rw[if_pos h]
theorem Zij {c:Cf} (h:c.ok) (h0:0<c.large):Sp.ok (Zo c):=by
 have h':=h;unfold Cf.ok at h';unfold Zo;rw[if_pos ⟨h,by omega⟩];unfold Sp.ok most;simp only;omega
theorem ZsW {c:Cf} (h:c.ok):May15 (ZtD c):=by
 rw[Zjq h];have h':=h;unfold Cf.ok at h';have hw:=Zcq h;have hfr:ZR c false=(0,c.semi):=Zfp h
 have hst:St.steps ⟨c,false,List.replicate (Zs c).toNat 0,0,[],if 0<c.large then[Zo c] else[],List.replicate c.slots.toNat (false,0,0)⟩=[]:=by
  unfold St.steps St.frm ZH;simp only[hfr];rw[if_pos (by unfold may9 Sp.ok most;simp only;omega)];exact Zeh (by omega)
 have hob:St.objs ⟨c,false,List.replicate (Zs c).toNat 0,0,[],if 0<c.large then[Zo c] else[],List.replicate c.slots.toNat (false,0,0)⟩=[]:=by
  unfold St.objs St.smalls;rw[hst];rfl
 refine⟨h,?_,?_,?_,?_,?_,?_,?_,?_⟩
 · show((List.replicate (Zs c).toNat 0).length:Int)=Zs c
   rw[List.length_replicate];omega
 · unfold r3 St.frm
   simp only[hfr];exact Ym (by omega)
 · rw[hst];rfl
 · unfold r5 St.smalls
   rw[hst];rfl
 · unfold r6
   rw[Bool.and_eq_true];refine⟨?_,rfl⟩;rw[decide_eq_true_iff];show Zah (Zo c) [] (if 0<c.large then[Zo c] else[])
   split
   · exact ZlZ (Zij h (by assumption))
   · refine Zkl fun e=>?_
     unfold Zo at e;rw[if_neg (by omega)] at e;unfold Sp.ok at e;simp only at e;omega
 · unfold r7
   show ZbR dE (List.replicate c.slots.toNat ((false,0,0):Slt)) c.slots=true;refine ZgB (by rw[List.length_replicate];omega) fun j y hj hy=>?_
   have:=Yo hy
   rw[List.mem_replicate] at this;rw[this.2];exact Zc0 (by omega)
 · unfold r8
   rw[hob];rfl
 · unfold r9
   rw[List.all_eq_true];intro t ht;have ht':t∈List.replicate c.slots.toNat ((false,0,0):Slt):=ht;rw[List.mem_replicate] at ht';rw[ht'.2];rfl
end
end Go.Proofs.YteieocddfnlmdaaGreatDoor
