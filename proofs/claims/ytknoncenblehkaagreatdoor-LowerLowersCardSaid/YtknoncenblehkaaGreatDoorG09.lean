/- Plain mathematics of the library's stable sort: chains of sw -/
import Derived.Sort.LotA
import Derived.Test.YtknoncenblehkaaGreatDoorG00
set_option maxRecDepth 100000
set_option maxHeartbeats 32000000
set_option linter.unusedSimpArgs false
set_option linter.unusedVariables false
set_option linter.unusedSectionVars false
namespace Go.Proofs.YtknoncenblehkaaGreatDoor
open Go.Sort
section
variable {α:Type} [Inhabited α] {lt:α→α→Bool}
theorem Zc2 (hS:SWO lt) {x y z:α} (h1:lt y x=false) (h2:lt z y=false):lt z x=false:=hS.ntrans z y x h2 h1
theorem ZdC (hS:SWO lt) {x y:α} (h:lt x y=true):lt y x=false:=hS.asymmA h
theorem Z5 (hS:SWO lt) {a b:Nat} {d:Array α} (h:SortedIn lt a b d) {i j:Nat} (h1:a≤i) (h2:i≤j) (h3:j<b):lt d[j]! d[i]! =false:=by
 rcases Yp i j with hlt|hge
 · exact h i j h1 hlt h3
 · obtain rfl:i=j:=by omega
   exact hS.irrefl _
theorem ZbT {a b:Nat} {d e f:Array α} (h:PermIn a b d e) (g:PermIn a b e f):PermIn a b d f:=permIn_trans d e f a b h g
theorem Zgu {a b:Nat} {d e:Array α} (h:PermIn a b d e) {i j:Nat} (h1:a≤i) (h2:i<b) (h3:a≤j) (h4:j<b) (hb:b≤d.size):PermIn a b d (swp e i j):=
 ZbT h (swp_permIn e a b i j h1 h2 h3 h4 (by rw[h.1];exact hb))
structure Up (d e:Array α) (a b k:Nat):Prop where
 perm:PermIn a b d e
 body: ∀j,e[j]! =if a≤j∧j<k then d[j+1]! else if j=k then d[a]! else d[j]!
theorem Up.start (d:Array α) (a b:Nat):Up d d a b a:=⟨permIn_refl d a b,fun j=>by
 rw[if_neg (by omega)]
 split
 · rename_i h;rw[h]
 · rfl⟩
theorem Up.next {d e:Array α} {a b k:Nat} (h:Up d e a b k) (ha:a≤k) (hk:k+1<b) (hb:b≤d.size):Up d (swp e k (k+1)) a b (k+1):=by
 have hs:=h.perm.1;refine⟨Zgu h.perm ha (by omega) (by omega) hk hb,fun j=>?_⟩;rw[swp_get e (by omega) (by omega)];have b0:=h.body k;have b1:=h.body (k+1);have b2:=h.body j;rw[if_neg (by omega),if_pos rfl] at b0;rw[if_neg (by omega),if_neg (by omega)] at b1;by_cases h1:j=k+1
 · subst h1
   rw[if_pos rfl,b0,if_neg (by omega),if_pos rfl]
 · rw[if_neg h1]
   by_cases h2:j=k
   · subst h2
     rw[if_pos rfl,b1,if_pos (by omega)]
   · rw[if_neg h2,b2]
     by_cases h3:a≤j∧j<k
     · rw[if_pos h3,if_pos (by omega)]
     · rw[if_neg h3,if_neg h2,if_neg (by omega),if_neg h1]
theorem Up.sorted (hS:SWO lt) {d e:Array α} {a b i:Nat} (h:Up d e a b (i - 1)) (hs:SortedIn lt (a+1) b d) (h1:a+1≤i) (h2:i≤b) (hlo: ∀q,a+1≤q→q<i→lt d[q]! d[a]! =true) (hhi: ∀q,i≤q→q<b→lt d[q]! d[a]! =false):SortedIn lt a b e:=by
 intro p q hp hpq hq;rw[h.body p,h.body q];by_cases hp1:p<i - 1
 · rw[if_pos (show a≤p∧p<i - 1 by omega)]
   by_cases hq1:q<i - 1
   · rw[if_pos (show a≤q∧q<i - 1 by omega)]
     exact hs _ _ (by omega) (by omega) (by omega)
   · rw[if_neg (show ¬(a≤q∧q<i - 1) by omega)]
     by_cases hq2:q=i - 1
     · rw[if_pos hq2]
       exact ZdC hS (hlo _ (by omega) (by omega))
     · rw[if_neg hq2]
       exact hs _ _ (by omega) (by omega) hq
 · rw[if_neg (show ¬(a≤p∧p<i - 1) by omega),if_neg (show ¬(a≤q∧q<i - 1) by omega),if_neg (show ¬q=i - 1 by omega)]
   by_cases hp2:p=i - 1
   · rw[if_pos hp2]
     exact hhi _ (by omega) hq
   · rw[if_neg hp2]
     exact hs _ _ (by omega) hpq hq
structure Dn (d e:Array α) (a b m k:Nat):Prop where
 perm:PermIn a b d e
 body: ∀j,e[j]! =if k<j∧j≤m then d[j - 1]! else if j=k then d[m]! else d[j]!
theorem Dn.start (d:Array α) (a b m:Nat):Dn d d a b m m:=⟨permIn_refl d a b,fun j=>by
 rw[if_neg (by omega)]
 split
 · rename_i h;rw[h]
 · rfl⟩
theorem Dn.next {d e:Array α} {a b m k:Nat} (h:Dn d e a b m (k+1)) (ha:a≤k) (hk:k+1≤m) (hm:m<b) (hb:b≤d.size):Dn d (swp e (k+1) k) a b m k:=by
 have hs:=h.perm.1;refine⟨Zgu h.perm (by omega) (by omega) ha (by omega) hb,fun j=>?_⟩;rw[swp_get e (by omega) (by omega)];have b0:=h.body k;have b1:=h.body (k+1);have b2:=h.body j;rw[if_neg (by omega),if_neg (by omega)] at b0;rw[if_neg (by omega),if_pos rfl] at b1;by_cases h1:j=k
 · subst h1
   rw[if_pos rfl,b1,if_neg (by omega),if_pos rfl]
 · rw[if_neg h1]
   by_cases h2:j=k+1
   · subst h2
     rw[if_pos rfl,b0,if_pos (by omega)];rfl
   · rw[if_neg h2,b2]
     by_cases h3:k+1<j∧j≤m
     · rw[if_pos h3,if_pos (by omega)]
     · rw[if_neg h3,if_neg h2,if_neg (by omega),if_neg h1]
theorem Dn.sorted (hS:SWO lt) {d e:Array α} {a b m i:Nat} (h:Dn d e a b m i) (hm:b=m+1) (hs:SortedIn lt a m d) (h1:a≤i) (h2:i≤m) (hlo: ∀q,a≤q→q<i→lt d[m]! d[q]! =false) (hhi: ∀q,i≤q→q<m→lt d[m]! d[q]! =true):SortedIn lt a b e:=by
 intro p q hp hpq hq;rw[h.body p,h.body q];by_cases hp1:i<p
 · rw[if_pos (show i<p∧p≤m by omega),if_pos (show i<q∧q≤m by omega)]
   exact hs _ _ (by omega) (by omega) (by omega)
 · rw[if_neg (show ¬(i<p∧p≤m) by omega)]
   by_cases hp2:p=i
   · rw[if_pos hp2,if_pos (show i<q∧q≤m by omega)]
     exact ZdC hS (hhi _ (by omega) (by omega))
   · rw[if_neg hp2]
     by_cases hq1:i<q
     · rw[if_pos (show i<q∧q≤m by omega)]
       exact hs _ _ (by omega) (by omega) (by omega)
     · rw[if_neg (show ¬(i<q∧q≤m) by omega)]
       by_cases hq2:q=i
       · rw[if_pos hq2]
         exact hlo _ hp (by omega)
       · rw[if_neg hq2]
         exact hs _ _ hp hpq (by omega)
structure Swr (d e:Array α) (lo hi a b n:Nat):Prop where
 perm:PermIn lo hi d e
 body: ∀j,e[j]! =if a≤j∧j<a+n then d[j - a+b]! else if b≤j∧j<b+n then d[j - b+a]! else d[j]!
theorem Swr.start (d:Array α) (lo hi a b:Nat):Swr d d lo hi a b 0:=⟨permIn_refl d lo hi,fun j=>by rw[if_neg (by omega),if_neg (by omega)]⟩
theorem Swr.next {d e:Array α} {lo hi a b n:Nat} (h:Swr d e lo hi a b n) (hl:lo≤a) (hab:a+n<b) (hh:b+n<hi) (hs:hi≤d.size):Swr d (swp e (a+n) (b+n)) lo hi a b (n+1):=by
 have hz:=h.perm.1;refine⟨Zgu h.perm (by omega) (by omega) (by omega) (by omega) hs,fun j=>?_⟩;rw[swp_get e (by omega) (by omega)];have b0:=h.body (a+n);have b1:=h.body (b+n);have b2:=h.body j;rw[if_neg (by omega),if_neg (by omega)] at b0;rw[if_neg (by omega),if_neg (by omega)] at b1;by_cases h1:j=b+n
 · subst h1
   rw[if_pos rfl,b0,if_neg (by omega),if_pos (by omega)]
   congr 1;omega
 · rw[if_neg h1]
   by_cases h2:j=a+n
   · subst h2
     rw[if_pos rfl,b1,if_pos (by omega)]
     congr 1;omega
   · rw[if_neg h2,b2]
     by_cases h3:a≤j∧j<a+n
     · rw[if_pos h3,if_pos (by omega)]
     · rw[if_neg h3,if_neg (show ¬(a≤j∧j<a+(n+1)) by omega)]
       by_cases h4:b≤j∧j<b+n
       · rw[if_pos h4,if_pos (by omega)]
       · rw[if_neg h4,if_neg (by omega)]
def Zeg (a m b j:Nat):Nat:=if a≤j∧j<a+(b - m) then j+(m - a) else if a+(b - m)≤j∧j<b then j - (b - m) else j
structure Rot (d e:Array α) (a m b i j:Nat):Prop where
 perm:PermIn a b d e
 body: ∀q,e[Zeg (m - i) m (m+j) q]! =d[Zeg a m b q]!
theorem Rot.start (d:Array α) (a m b:Nat) (h1:a≤m) (h2:m≤b):Rot d d a m b (m - a) (b - m):=
 ⟨permIn_refl d a b,fun q=>by rw[show m - (m - a)=a by omega,show m+(b - m)=b by omega]⟩
theorem Zcx {a m b q:Nat} (h:q<a):Zeg a m b q=q:=by unfold Zeg;rw[if_neg (by omega),if_neg (by omega)]
theorem Zfu {a m b q:Nat} (h:a≤q) (h':q<a+(b - m)):Zeg a m b q=q+(m - a):=by unfold Zeg;rw[if_pos ⟨h,h'⟩]
theorem ZfQ {a m b q:Nat} (h:a+(b - m)≤q) (h':q<b):Zeg a m b q=q - (b - m):=by unfold Zeg;rw[if_neg (by omega),if_pos ⟨h,h'⟩]
theorem ZcB {a m b q:Nat} (h:b≤q) (h':a≤m) (h2:m≤b):Zeg a m b q=q:=by unfold Zeg;rw[if_neg (by omega),if_neg (by omega)]
theorem Swr.b1 {d e:Array α} {lo hi a b n j:Nat} (h:Swr d e lo hi a b n) (h1:a≤j) (h2:j<a+n):e[j]! =d[j - a+b]! :=by rw[h.body,if_pos ⟨h1,h2⟩]
theorem Swr.b2 {d e:Array α} {lo hi a b n j:Nat} (h:Swr d e lo hi a b n) (hab:a+n≤b) (h1:b≤j) (h2:j<b+n):e[j]! =d[j - b+a]! :=by rw[h.body,if_neg (by omega),if_pos ⟨h1,h2⟩]
theorem Swr.b0 {d e:Array α} {lo hi a b n j:Nat} (h:Swr d e lo hi a b n) (h1: ¬(a≤j∧j<a+n)) (h2: ¬(b≤j∧j<b+n)):e[j]! =d[j]! :=by rw[h.body,if_neg h1,if_neg h2]
theorem ZgN {e:Array α} {x y:Nat} (h:x=y):e[x]! =e[y]! :=by rw[h]
theorem ZlB {e f:Array α} {lo hi m i j:Nat} (hij:j<i) (him:i≤m) (h:Swr e f lo hi (m - i) m j) (q:Nat):f[Zeg (m - (i - j)) m (m+j) q]! =e[Zeg (m - i) m (m+j) q]! :=by
 rcases Yp q (m - i) with c1|c1
 · rw[Zcx (by omega),Zcx c1,h.b0 (by omega) (by omega)]
 rcases Yp q (m - i+j) with c2|c2
 · rw[Zcx (by omega),Zfu c1 (by omega),h.b1 c1 c2];exact ZgN (by omega)
 rcases Yp q (m+j) with c3|c3
 · rw[ZfQ (q:=q) (a:=m - i) (by omega) c3]
   rcases Yp q (m - i+j+j) with c4|c4
   · rw[Zfu (by omega) (by omega),h.b2 (by omega) (by omega) (by omega)];exact ZgN (by omega)
   · rw[ZfQ (by omega) c3,h.b0 (by omega) (by omega)]
 · rw[ZcB c3 (by omega) (by omega),ZcB c3 (by omega) (by omega),h.b0 (by omega) (by omega)]
theorem Zkk {e f:Array α} {lo hi m i j:Nat} (hij:i<j) (him:i≤m) (h:Swr e f lo hi (m - i) (m+j - i) i) (q:Nat):f[Zeg (m - i) m (m+(j - i)) q]! =e[Zeg (m - i) m (m+j) q]! :=by
 rcases Yp q (m - i) with c1|c1
 · rw[Zcx c1,Zcx c1,h.b0 (by omega) (by omega)]
 rcases Yp q (m+j) with c3|c3
 · rcases Yp q (m+j - i) with c2|c2
   · rw[Zfu (q:=q) (b:=m+j) c1 (by omega)]
     rcases Yp q (m - i+(j - i)) with c4|c4
     · rw[Zfu c1 (by omega),h.b0 (by omega) (by omega)]
     · rw[ZfQ (by omega) (by omega),h.b1 (by omega) (by omega)];exact ZgN (by omega)
   · rw[ZfQ (q:=q) (b:=m+j) (by omega) c3,ZcB (by omega) (by omega) (by omega),h.b2 (by omega) (by omega) (by omega)];exact ZgN (by omega)
 · rw[ZcB (b:=m+j) c3 (by omega) (by omega),ZcB (by omega) (by omega) (by omega),h.b0 (by omega) (by omega)]
theorem Zlq {e f:Array α} {lo hi m i:Nat} (him:i≤m) (h:Swr e f lo hi (m - i) m i) (q:Nat):f[q]! =e[Zeg (m - i) m (m+i) q]! :=by
 rcases Yp q (m - i) with c1|c1
 · rw[Zcx c1,h.b0 (by omega) (by omega)]
 rcases Yp q m with c2|c2
 · rw[Zfu c1 (by omega),h.b1 c1 (by omega)];exact ZgN (by omega)
 rcases Yp q (m+i) with c3|c3
 · rw[ZfQ (by omega) c3,h.b2 (by omega) c2 c3];exact ZgN (by omega)
 · rw[ZcB c3 (by omega) (by omega),h.b0 (by omega) (by omega)]
theorem Rot.left {d e f:Array α} {a m b i j:Nat} (h:Rot d e a m b i j) (hij:j<i) (him:i≤m) (g:Swr e f a b (m - i) m j):Rot d f a m b (i - j) j:=
 ⟨ZbT h.perm g.perm,fun q=>(ZlB hij him g q).trans (h.body q)⟩
theorem Rot.right {d e f:Array α} {a m b i j:Nat} (h:Rot d e a m b i j) (hij:i<j) (him:i≤m) (g:Swr e f a b (m - i) (m+j - i) i):Rot d f a m b i (j - i):=
 ⟨ZbT h.perm g.perm,fun q=>(Zkk hij him g q).trans (h.body q)⟩
structure Rotd (d e:Array α) (a m b:Nat):Prop where
 perm:PermIn a b d e
 body: ∀q,e[q]! =d[Zeg a m b q]!
theorem Rot.last {d e f:Array α} {a m b i:Nat} (h:Rot d e a m b i i) (him:i≤m) (g:Swr e f a b (m - i) m i):Rotd d f a m b:=
 ⟨ZbT h.perm g.perm,fun q=>(Zlq him g q).trans (h.body q)⟩
theorem Rotd.none {d:Array α} {a m b:Nat} (h:a=m∨m=b) (hab:a≤m) (hmb:m≤b):Rotd d d a m b:=by
 refine⟨permIn_refl d a b,fun q=>ZgN ?_⟩;unfold Zeg
 split
 · omega
 · split <;> omega
structure Parts (lt:α→α→Bool) (d:Array α) (a m b mid s e:Nat):Prop where
 a_le:a≤s
 s_le:s≤m
 m_le:m≤e
 e_le:e≤b
 sum:s+e=mid+m
 xx: ∀i j,a≤i→i<s→e≤j→j<b→lt d[j]! d[i]! =false
 yx: ∀i j,s≤i→i<m→m≤j→j<e→lt d[i]! d[j]! =false
structure Srch (lt:α→α→Bool) (d:Array α) (st0 r0 p st r:Nat):Prop where
 st_ge:st0≤st
 st_le:st≤r
 r_le:r≤r0
 lo: ∀c,st0≤c→c<st→lt d[p - c]! d[c]! =false
 hi: ∀c,r≤c→c<r0→lt d[p - c]! d[c]! =true
theorem Srch.start (d:Array α) {st0 r0 p:Nat} (h:st0≤r0):Srch lt d st0 r0 p st0 r0:=⟨Yi _,h,Yi _,fun _ _ _=>by omega,fun _ _ _=>by omega⟩
structure Mrg (lt:α→α→Bool) (d:Array α) (a m b:Nat):Prop where
 am:a<m
 mb:m<b
 bs:b≤d.size
 left:SortedIn lt a m d
 right:SortedIn lt m b d
def Za4 (a b:Nat):Nat:=(a+b) / 2
def Zft (a m b:Nat):Nat:=if Za4 a b<m then Za4 a b+m - b else a
def r0I (a m b:Nat):Nat:=if Za4 a b<m then Za4 a b else m
theorem Zhz {a m b:Nat} (h1:a<m) (h2:m<b):Zft a m b≤r0I a m b∧a≤Zft a m b∧r0I a m b≤m∧m+Za4 a b - 1 - Zft a m b<b∧(∀c,c<r0I a m b→m≤Za4 a b+m - 1 - c):=by
 unfold Zft r0I Za4
 split
 · refine⟨by omega,by omega,by omega,by omega,fun c hc=>by omega⟩
 · refine⟨by omega,by omega,by omega,by omega,fun c hc=>by omega⟩
theorem Srch.up (hS:SWO lt) {d:Array α} {a m b st r c:Nat} (M:Mrg lt d a m b) (h:Srch lt d (Zft a m b) (r0I a m b) (Za4 a b+m - 1) st r) (hc1:st≤c) (hc2:c<r)
 (hl:lt d[Za4 a b+m - 1 - c]! d[c]! =false):Srch lt d (Zft a m b) (r0I a m b) (Za4 a b+m - 1) (c+1) r:=by
 obtain⟨z1,z2,z3,z4,z5⟩:=Zhz M.am M.mb;refine⟨by have:=h.st_ge;omega,hc2,h.r_le,fun q h1 h2=>?_,h.hi⟩;have hr:=h.r_le;have p1:=z5 c (by omega);have p2:=z5 q (by omega);have e1:lt d[c]! d[q]! =false:=Z5 hS M.left (by omega) (by omega) (by omega);have e2:lt d[Za4 a b+m - 1 - q]! d[Za4 a b+m - 1 - c]! =false:=Z5 hS M.right p1 (by omega) (by omega);exact Zc2 hS (Zc2 hS e1 hl) e2
theorem Srch.down (hS:SWO lt) {d:Array α} {a m b st r c:Nat} (M:Mrg lt d a m b) (h:Srch lt d (Zft a m b) (r0I a m b) (Za4 a b+m - 1) st r) (hc1:st≤c) (hc2:c<r)
 (hl:lt d[Za4 a b+m - 1 - c]! d[c]! =true):Srch lt d (Zft a m b) (r0I a m b) (Za4 a b+m - 1) st c:=by
 obtain⟨z1,z2,z3,z4,z5⟩:=Zhz M.am M.mb;refine⟨h.st_ge,hc1,by have:=h.r_le;omega,h.lo,fun q h1 h2=>?_⟩;have hst:=h.st_ge;have p1:=z5 c (by omega);have p2:=z5 q (by omega);have e1:lt d[q]! d[c]! =false:=Z5 hS M.left (by omega) h1 (by omega);have e2:lt d[Za4 a b+m - 1 - c]! d[Za4 a b+m - 1 - q]! =false:=Z5 hS M.right p2 (by omega) (by omega);rcases Bool.eq_false_or_eq_true (lt d[Za4 a b+m - 1 - q]! d[q]!) with hh|hh
 · exact hh
 · have hx:=Zc2 hS (Zc2 hS e1 hh) e2
   rw[hx] at hl
   cases hl
theorem Srch.parts (hS:SWO lt) {d:Array α} {a m b s:Nat} (M:Mrg lt d a m b) (h:Srch lt d (Zft a m b) (r0I a m b) (Za4 a b+m - 1) s s):Parts lt d a m b (Za4 a b) s (Za4 a b+m - s):=by
 obtain⟨z1,z2,z3,z4,z5⟩:=Zhz M.am M.mb;have h1:=h.st_ge;have h2:=h.r_le
 have hab:a+b=2 * Za4 a b∨a+b=2 * Za4 a b+1:=by unfold Za4;omega
 have ham:=M.am;have hmb:=M.mb
 have hr0:(Za4 a b<m∧Zft a m b=Za4 a b+m - b∧r0I a m b=Za4 a b)∨(m≤Za4 a b∧Zft a m b=a∧r0I a m b=m):=by
  unfold Zft r0I
  split
  · exact .inl ⟨by assumption,rfl,rfl⟩
  · exact .inr ⟨by omega,rfl,rfl⟩
 refine⟨by omega,by omega,by omega,by omega,by omega,fun i j hi1 hi2 hj1 hj2=>?_,fun i j hi1 hi2 hj1 hj2=>?_⟩
 · have hlt:Zft a m b<s:=by omega
   have hl:=h.lo (s - 1) (by omega) (by omega);rw[show Za4 a b+m - 1 - (s - 1)=Za4 a b+m - s by omega] at hl;have e1:lt d[s - 1]! d[i]! =false:=Z5 hS M.left hi1 (by omega) (by omega);have e2:lt d[j]! d[Za4 a b+m - s]! =false:=Z5 hS M.right (by omega) hj1 hj2;exact Zc2 hS (Zc2 hS e1 hl) e2
 · have hlt:s<r0I a m b:=by omega
   have hl:=ZdC hS (h.hi s (Yi _) hlt);have e1:lt d[i]! d[s]! =false:=Z5 hS M.left (by omega) hi1 hi2;have e2:lt d[Za4 a b+m - 1 - s]! d[j]! =false:=Z5 hS M.right hj1 (by omega) (by omega);exact Zc2 hS (Zc2 hS e2 hl) e1
structure Halves (lt:α→α→Bool) (d e:Array α) (a mid b s en:Nat):Prop where
 perm:PermIn a b d e
 as:a≤s
 sm:s≤mid
 me:mid≤en
 eb:en≤b
 s1:SortedIn lt a s e
 s2:SortedIn lt s mid e
 s3:SortedIn lt mid en e
 s4:SortedIn lt en b e
 cross: ∀i j,a≤i→i<mid→mid≤j→j<b→lt e[j]! e[i]! =false
theorem Zox {d e:Array α} {a m b s en:Nat} (M:Mrg lt d a m b) (P:Parts lt d a m b (Za4 a b) s en) (R:Rotd d e s m en) (hperm:PermIn a b d e):Halves lt d e a (Za4 a b) b s en:=by
 have h1:=P.a_le;have h2:=P.s_le;have h3:=P.m_le;have h4:=P.e_le;have h5:=P.sum
 have hx: ∀q,a≤q→q<s→e[q]! =d[q]! :=fun q _ hq=>by rw[R.body];unfold Zeg;rw[if_neg (by omega),if_neg (by omega)]
 have hy: ∀q,s≤q→q<Za4 a b→e[q]! =d[q+(m - s)]! :=fun q hq1 hq2=>by rw[R.body];unfold Zeg;rw[if_pos (by omega)]
 have hz: ∀q,Za4 a b≤q→q<en→e[q]! =d[q - (en - m)]! :=fun q hq1 hq2=>by rw[R.body];unfold Zeg;rw[if_neg (by omega),if_pos (by omega)]
 have hw: ∀q,en≤q→e[q]! =d[q]! :=fun q hq1=>by rw[R.body];unfold Zeg;rw[if_neg (by omega),if_neg (by omega)]
 refine⟨hperm,h1,by omega,by omega,h4,fun p q hp hpq hq=>?_,fun p q hp hpq hq=>?_,fun p q hp hpq hq=>?_,fun p q hp hpq hq=>?_,fun i j hi1 hi2 hj1 hj2=>?_⟩
 · rw[hx p hp (by omega),hx q (by omega) hq];exact M.left _ _ hp hpq (by omega)
 · rw[hy p hp (by omega),hy q (by omega) hq];exact M.right _ _ (by omega) (by omega) (by omega)
 · rw[hz p hp (by omega),hz q (by omega) hq];exact M.left _ _ (by omega) (by omega) (by omega)
 · rw[hw p hp,hw q (by omega)];exact M.right _ _ (by omega) hpq hq
 · rcases Yp i s with hi|hi
   · rw[hx i hi1 hi]
     rcases Yp j en with hj|hj
     · rw[hz j hj1 hj];exact M.left _ _ hi1 (by omega) (by omega)
     · rw[hw j hj];exact P.xx i j hi1 hi hj hj2
   · rw[hy i hi hi2]
     rcases Yp j en with hj|hj
     · rw[hz j hj1 hj];exact P.yx _ _ (by omega) (by omega) (by omega) (by omega)
     · rw[hw j hj];exact M.right _ _ (by omega) (by omega) hj2
theorem Zaa {a b:Nat} {d e:Array α} (h:SortedIn lt a b d) (he: ∀q,a≤q→q<b→e[q]! =d[q]!):SortedIn lt a b e:=fun p q hp hpq hq=>by
 rw[he p hp (by omega),he q (by omega) hq];exact h p q hp hpq hq
theorem Zgr {e f g:Array α} {a mid b:Nat} (h1:a≤mid) (h2:mid≤b) (hb:b≤e.size) (hc: ∀i j,a≤i→i<mid→mid≤j→j<b→lt e[j]! e[i]! =false)
 (pf:PermIn a mid e f) (sf:SortedIn lt a mid f) (pg:PermIn mid b f g) (sg:SortedIn lt mid b g):PermIn a b e g∧SortedIn lt a b g:=by
 have hf:=pf.1;have hg:=pg.1;refine⟨ZbT (permIn_mono e f a mid a b (Yi _) h2 hb pf) (permIn_mono f g mid b a b h1 (Yi _) (by omega) pg),fun p q hp hpq hq=>?_⟩;have gf: ∀q,q<mid→g[q]! =f[q]! :=fun q hq=>pg.2.1 q (.inl hq);rcases Yp q mid with hqm|hqm
 · rw[gf p (by omega),gf q hqm];exact sf p q hp hpq hqm
 · rcases Yp p mid with hpm|hpm
   · rw[gf p hpm]
     have c1: ∀j,mid≤j→j<b→lt f[j]! f[p]! =false:=by
      intro j hj1 hj2;rw[pf.2.1 j (.inr hj1)];exact permIn_all e f a mid (fun x=>lt e[j]! x=false) (by omega) pf (fun i hi1 hi2=>hc i j hi1 hi2 hj1 hj2) p hp hpm
     exact permIn_all f g mid b (fun x=>lt x f[p]! =false) (by omega) pg c1 q hqm hq
   · exact sg p q hpm hpq hq
def Zf6 (lt:α→α→Bool) (d:Array α) (n B z:Nat):Prop:= ∀t:Nat,SortedIn lt (z+t * B) (min (z+t * B+B) n) d
def Zg3 (lt:α→α→Bool) (d:Array α) (B s:Nat):Prop:= ∀t:Nat,t<s→SortedIn lt (t * B) (t * B+B) d
theorem Zg3.zero (d:Array α) (B:Nat):Zg3 lt d B 0:=fun _ h=>by omega
theorem Zg3.next {d e:Array α} {B s a b:Nat} (h:Zg3 lt d B s) (ha:a=s * B) (hb:b=a+B) (he: ∀q,q<a→e[q]! =d[q]!) (hs:SortedIn lt a b e):Zg3 lt e B (s+1):=by
 intro t ht;rcases Yp t s with h1|h1
 · have hm:(t+1) * B≤s * B:=Nat.mul_le_mul_right _ h1
   rw[Nat.add_mul,Nat.one_mul] at hm;exact Zaa (h t h1) fun q _ hq=>he q (by omega)
 · obtain rfl:t=s:=by omega
   rw[← ha, ← hb];exact hs
theorem Zf6.skip {d e:Array α} {n B z b:Nat} (h:Zf6 lt d n B z) (k:Nat) (hb:b=z+k * B) (he: ∀q,b≤q→e[q]! =d[q]!):Zf6 lt e n B b:=by
 intro t
 have:=h (k+t)
 rw[Nat.add_mul, ← Nat.add_assoc, ← hb] at this;exact Zaa this fun q hq _=>he q (by omega)
theorem Zg3.runs {d:Array α} {n B s a:Nat} (h:Zg3 lt d B s) (ha:a=s * B) (hs:SortedIn lt a n d):Zf6 lt d n B 0:=by
 intro t;rw[Nat.zero_add];rcases Yp t s with h1|h1
 · intro p q hp hpq hq
   exact h t h1 p q hp hpq (by omega)
 · have hm:s * B≤t * B:=Nat.mul_le_mul_right _ h1
   intro p q hp hpq hq;exact hs p q (by omega) hpq (by omega)
theorem Zf6.first {d:Array α} {n B z:Nat} (h:Zf6 lt d n B z) (hb:z+B≤n):SortedIn lt z (z+B) d:=by
 have:=h 0
 rw[Nat.zero_mul,Nat.add_zero,Nat.min_eq_left hb] at this;exact this
theorem Zf6.second {d:Array α} {n B z:Nat} (h:Zf6 lt d n B z):SortedIn lt (z+B) (min (z+B+B) n) d:=by
 have:=h 1
 rw[Nat.one_mul] at this;exact this
theorem Zf6.last {d:Array α} {n B z:Nat} (h:Zf6 lt d n B z) (hb:n≤z+B):SortedIn lt z n d:=by
 have:=h 0
 rw[Nat.zero_mul,Nat.add_zero,Nat.min_eq_right hb] at this;exact this
theorem Zf6.all {d:Array α} {n B:Nat} (h:Zf6 lt d n B 0) (hb:n≤B):SortedIn lt 0 n d:=h.last (by omega)
end
end Go.Proofs.YtknoncenblehkaaGreatDoor
