/- The smallest words of all texts: an answer's number, 2^64 be -/
import Derived.WalkKit
import Derived.Lib.Hide
set_option maxRecDepth 100000
set_option maxHeartbeats 32000000
set_option linter.unusedSimpArgs false
set_option linter.unusedVariables false
namespace Go.Proofs.YtknoncenblehkaaGreatDoor
open Go.RowKit
theorem ZZ {p:Prop} (h:p):Hid p:=h
abbrev Ya:=@List.getElem?_eq_getElem
abbrev Yb:=@List.setIfInBounds_toArray
abbrev Yc:=@List.set_cons_succ
abbrev Yd:=@List.set_cons_zero
abbrev Ye:=@List.getElem_cons_succ
abbrev Yf:=@List.getElem_cons_zero
abbrev Yg:=@List.getElem_toArray
abbrev Yh:=@Nat.le_trans
abbrev Yi:=@Nat.le_refl
abbrev Yj:=@List.getElem?_eq_some_iff
abbrev Yk:=@decide_eq_false
abbrev Yl:=@decide_eq_true
abbrev Ym:=@List.getD_eq_getElem?_getD
abbrev Yn:=@List.mem_of_getElem?
abbrev Yo:=@Option.some.inj
abbrev Yp:=@Nat.lt_or_ge
abbrev Yq:=@List.mem_append
abbrev Yr:=@List.length_append
abbrev Ys:=@List.mem_singleton
abbrev Yt:=@Nat.zero_le
abbrev Yu:=@Array.getElem?_eq_some_iff
abbrev Yv:=@Nat.lt_of_lt_of_le
theorem Znx {a b:Int} (h:a=b):Ending.returned (.int .u64 a)=.returned (.int .u64 b):=by rw[h]
theorem ZbF {a b:Int} (h:a=b):Ending.returned (.int .i64 a)=.returned (.int .i64 b):=by rw[h]
theorem Za {a b:Bool} (h:a=b):Ending.returned (.bool a)=.returned (.bool b):=by rw[h]
def full:Nat:=18446744073709551616
theorem ZdJ:full=2 ^ 64:=rfl
theorem Zb0 {n:Nat} (h:n≤64):2 ^ n≤full:=Nat.pow_le_pow_right (by decide) h
theorem ZgL {n:Nat} (h:n<64):2 ^ n<full:=Nat.pow_lt_pow_right (by decide) h
theorem Zbf {k:IntKind} {a b:Int} (h:a=b):Ending.returned (.int k a)=.returned (.int k b):=by rw[h]
end Go.Proofs.YtknoncenblehkaaGreatDoor
