/- The walk of ValueTexts; the table of the powers of ten out of what the row lays. -/
import Derived.Test.YtjnkcngicjghbaaDoorValLaw1
import Derived.Test.YtjnkcngicjghbaaDoorQuiet
import Derived.Test.YtjnkcngicjghbaaDoorRows
import Derived.MakeChecks
import Derived.Stop.LaidErr
namespace Go.Proofs.YtjnkcngicjghbaaDoor
open Go.RowKit

set_option maxHeartbeats 1000000 in
theorem valueTexts_walk (k x : Int) (hx : -9223372036854775808 ≤ x ∧ x ≤ 9223372036854775807) (w : World) (ht : Tab w) : Calls Tryd.prog 4 #[.agg #[.int .i64 k, .int .i64 x]] w fun e w' => e = .returned (.bool true) ∧ Below w.heap.size w w' := by
  obtain ⟨W, hW, HB⟩ := box_val w k x
  have HWE := Lib.hid hW
  have HA := Lib.hid (show ∀ n os, Calls Tryd.prog 13 #[.agg #[.int .i64 k, .int .i64 x]] (wat W n os) fun e w' => e = .returned (.string (vtext k x)) ∧ Only nob (wat W n os) w' from fun n os => text_any k x hx _ ((ht.old HB.out.1).old (only_wat W n os)))
  have HR := Lib.hid (show ∀ n os, Calls Tryd.prog 14 #[.agg #[.int .i64 k, .int .i64 x]] (wat W n os) fun e w' => e = .returned (.string (vtext k x)) ∧ Only nob (wat W n os) w' from fun n os => refText_any k x hx _)
  have HK := Lib.hid (show ∀ n os, Calls Tryd.prog 12 #[] (wat W n os) fun e w' => e = .returned (.bool true) ∧ Only nob (wat W n os) w' from fun n os => awake06_any _ ((ht.old HB.out.1).old (only_wat W n os)))
  have c0 := wat_cell HB.out.2.1
  have c1 := wat_cell HB.out.2.2
  have mixed : Tryd.prog.follows .mixedOrders = true := by kernel_rfl
  clear ht hW hx
  go_enter Tryd.func4, Tryd.ntmps4
  go_wp2_with fail
  rw [HWE.out]
  refine wp_region_only mixed (by kernel_rfl) ?_
  repeat (quiet_step (first
    | (go_at_call 13; with_reducible refine wat_call (HA.out _ _))
    | (go_at_call 14; with_reducible refine wat_call (HR.out _ _))
    | (go_at_call 12; with_reducible refine wat_call (HK.out _ _))))
  refine wpQuiet_nil ?_
  rintro w' ⟨⟨nq, osq⟩, rfl⟩
  obtain ⟨W3, hW3, O3⟩ := wat_name W nq osq
  rw [hW3]
  clear c0 c1
  go_wp2
  go_ret
  exact ⟨rfl, (HB.out.1.trans O3.out).whole⟩

theorem tab_of_laid {W : World} (h : laidMetH Tryd.prog [("math/bits.deBruijn32tab", Rows.laid_math_bits_deBruijn32tab), ("math/bits.deBruijn64tab", Rows.laid_math_bits_deBruijn64tab), ("internal/strconv.uint64pow10", Rows.laid_internal_strconv_uint64pow10)] W) : Tab W := by
  rw [MakeChecks.laidMetH_plain _ _ _ (by kernel_rfl)] at h
  have h3 := laidMet.tail (laidMet.tail h)
  exact Lib.tabIs_of_head (g := 0) (by kernel_rfl) (by kernel_rfl) Tryd.underlying53 Tryd.underlying24 (by kernel_rfl) (by kernel_rfl) h3
end Go.Proofs.YtjnkcngicjghbaaDoor
