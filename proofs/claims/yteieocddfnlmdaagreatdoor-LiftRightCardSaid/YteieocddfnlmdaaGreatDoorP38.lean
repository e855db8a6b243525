/- The heaps of chapter 19's example: they may be, or not; thei -/
import Derived.Test.YteieocddfnlmdaaGreatDoorP37
namespace Go.Proofs.YteieocddfnlmdaaGreatDoor
open Go.RowKit
set_option maxRecDepth 100000
def lC:Cf:=⟨4,0,2,3⟩
theorem Zfq:lC.ok:=by unfold Cf.ok lC;simp
theorem Zmr:CFit lC:=by constructor <;> (unfold I64 lC;simp)
def lS:St:=⟨lC,false,[259,2,0,0,0,0,0,0],2,[],[],[(false,0,0),(true,0,2)]⟩
def lT:St:={lS with top:=1}
theorem ZpK:Zro lC=⟨lC,false,List.replicate 8 0,0,[],[],[(false,0,0),(false,0,0)]⟩:=by
 rw[Zic Zfq];unfold Zh;rw[if_pos Zfq];unfold lC;simp
theorem lW8:(Zh lC).toNat=8:=by
 unfold Zh;rw[if_pos Zfq];rfl
theorem ZrS:ZO lC false=(0,4):=by
 rw[Zeq Zfq];rfl
theorem Zpt:lS.frm=(0,4):=ZrS
theorem ZpL:lT.frm=(0,4):=ZrS
theorem ZpS:((lS.ws.length:Nat):Int)=Zh lC:=by
 unfold Zh;rw[if_pos Zfq];rfl
theorem Ztk {s:St} (h1:s.frm=(0,4)) (h2:s.top=1∨s.top=2):r3 s=true:=by
 unfold r3;rw[h1]
 rcases h2 with h2|h2 <;> rw[h2] <;> decide
theorem ZfK:(hAr lS.ws 0).e=0∧osz (hAr lS.ws) 0=2:=by decide
theorem ZpI:ZT lT=4:=by
 refine ZpC Zfq ZpS (Ztk ZpL (.inl rfl)) fun h0=>?_;have hok:=ZgA h0
 have hs:lT.steps=tr (hAr lS.ws) 1 0:=by
  unfold St.steps ZX;rw[ZpL];exact if_pos (by unfold may9 Sp.ok ZcO lT;simp)
 rw[hs] at hok
 have hsw:swE (hAr lS.ws) 1 0≠0:=by rw[ZrO ZfK.1 (by rw[ZfK.2];decide)];decide
 rw[Zdy (by decide) hsw] at hok
 have:=hok _ (List.mem_singleton.2 rfl)
 rw[ZcP] at this;exact hsw this
theorem ZrA:swE (hAr lS.ws) 2 0=0:=ZsU ZfK.1 (by rw[ZfK.2];decide)
theorem ZiY:lS.steps=[item (hAr lS.ws) 2 0]:=by
 have hs:lS.steps=tr (hAr lS.ws) 2 0:=by
  unfold St.steps ZX;rw[Zpt];exact if_pos (by unfold may9 Sp.ok ZcO lS;simp)
 rw[hs,Zfk (ZaX _) (by decide) ZrA,ZfK.2,Zc6 (by decide)]
theorem Ziu:wkE lS.steps=0∧lS.smalls=[0]:=by
 have hok: ∀y∈lS.steps,y.e=0:=by
  intro y hy;rw[ZiY,List.mem_singleton] at hy;rw[hy,ZcP];exact ZrA
 obtain⟨-,h2,h3⟩:=Zn9 hok lS.top;refine⟨h2,?_⟩;unfold St.smalls;rw[h3,ZiY];simp[ats,Zax]
theorem ZgD:lS.objs=[0]:=by
 unfold St.objs;rw[Ziu.2];rfl
theorem Zqp:ZaV (Zl lC) [] []:=by
 have h:=(Zq5 Zfq).big;rw[ZpK] at h;unfold r6 at h;rw[Bool.and_eq_true,decide_eq_true_iff] at h;exact h.1
theorem Zsf:May15 lS where
 ok:=Zfq
 many:=ZpS
 top:=Ztk Zpt (.inr rfl)
 walk:=Ziu.1
 low:=by
  unfold r5;rw[Ziu.2];show(low lC lS.ws 0&&true)=true;unfold low ZaY;rw[ZfK.2,decide_eq_true Zfq];decide
 big:=by
  unfold r6;rw[Bool.and_eq_true,decide_eq_true_iff];exact⟨Zqp,rfl⟩
 slots:=by show Za9 dE [(false,0,0),(true,0,2)] 2=true;decide
 fields:=by
  unfold r8;rw[ZgD];decide
 leads:=by
  unfold r9;rw[ZgD];decide
theorem ZhH:ZT lS=0:=ZE.2 Zsf
def lG:Gr:=⟨[⟨0,[(2,0)],[]⟩],[(2,0)]⟩
theorem Zjh:liG lS=lG:=by
 rw[Za2 ZhH,ZgD]
 have h1:ohK lS.ws 0=0∧ohF lS.ws 0=1∧ohR lS.ws 0=0:=by decide
 have h2:Zff [0] 2=(2,0):=by decide
 have h3:liN [0] lS.ws 0=⟨0,[(2,0)],[]⟩:=by
  unfold liN ZkK ZlF;rw[h1.1,h1.2.1,h1.2.2];show(⟨0,[Zff [0] 2],[]⟩:Nd)=_;rw[h2]
 have h4:ZjH [0] lS.sl=[(2,0)]:=by
  show[Zff [0] 2]=_;rw[h2]
 show(⟨[liN [0] lS.ws 0],ZjH [0] lS.sl⟩:Gr)=_;rw[h3,h4];rfl
theorem Zrb:liV lS=[(2,0)]:=by
 unfold liV;rw[if_pos ZhH];show[Zn0 2]=_;decide
theorem ZgH:lvN lS=1∧lvA lS=2∧lvB lS=0∧lvF lS=1:=by
 obtain⟨h1,h2,h3,h4⟩:=Zpm ZhH;rw[h1,h2,h3,h4,Zjh];show(((ZbB lG).length:Nat):Int)=1∧Zhy lG (ZQ lG 3 0 1)=2∧Zhy lG (ZY lG 3 0 1)=0∧wrap64 (ZiR lG (ZQ lG 3 0 1)+ZiR lG (ZY lG 3 0 1))=1;decide+kernel
theorem Zd4:obE lS=0∧obL lS=[0]:=by
 obtain⟨h1,h2⟩:=Za6 ZhH;exact⟨h1,h2.trans ZgD⟩
theorem Zpa:obE lT=4:=(ZeS (s:=lT) (by rw[ZpI];decide)).1
theorem ZnE:StOk lS∧StOk lT:=by
 have w:ZaC lS.ws:=by unfold ZaC;decide
 have e0:ZoZ []:=fun _ h=>by cases h
 have s1:Zhd [(false,0,0),(true,0,2)]:=fun x hx=>by
  simp at hx;rcases hx with rfl|rfl
  · exact⟨by simp,by simp,by decide⟩
  · exact⟨by simp,by simp,by decide⟩
 exact⟨⟨Zmr,w,by unfold I64 lS;simp,e0,e0,s1,by unfold lS;simp⟩,⟨Zmr,w,by unfold I64 lT lS;simp,e0,e0,s1,by unfold lT lS;simp⟩⟩
theorem Zbr:ZH lS=false∧ZH lT=false:=by decide
theorem Zm3:ZcW lS lS=true∧ZcW lS lT=false:=by
 refine⟨?_,Ze2 (.inr (by rw[ZpI];decide))⟩;rw[ZiU ZnE.1 Zbr.1,ZhH];rfl
end Go.Proofs.YteieocddfnlmdaaGreatDoor
