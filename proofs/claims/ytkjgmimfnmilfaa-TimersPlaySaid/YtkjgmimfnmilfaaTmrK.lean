/-
  Whether two keys are the same, as the language's own comparison says.
  Conditions: none.
-/
import Derived.Test.YtkjgmimfnmilfaaTmrM
namespace Go.Proofs.Ytkjgmimfnmilfaa.Tm5
open Go.RowKit Go.ChangeMaps

theorem eq_key {a b : Tk} (ha : a.ok) (hb : b.ok) (w : World) : (Op.equal 33 (.agg #[.int .u8 a.kd, .int .u64 a.id]) (.agg #[.int .u8 b.kd, .int .u64 b.id])).run Try.prog w = .ok (sameK a b) w := by
  obtain ⟨la, h1⟩ := keyOf_kv ha
  obtain ⟨lb, h2⟩ := keyOf_kv hb
  obtain ⟨r, hr, hi⟩ := run_equal_deep w (m := 2) (by omega) (k := 33) (by kernel_rfl) (by rw [Try.underlying33]) h1 h2
  have e : r = sameK a b := Bool.eq_iff_iff.2 (hi.trans ⟨fun e => sameK_iff.2 (kv_inj (law.inj h1 (by rw [e]; exact h2))), fun e => by
    have := sameK_iff.1 e
    subst this
    rw [h1] at h2
    injection h2⟩)
  rw [← e]
  exact hr
theorem neq_key {a b : Tk} (ha : a.ok) (hb : b.ok) {z : Bool} (hz : sameK a b = z) (w : World) : (binOp .neq 33 (.agg #[.int .u8 a.kd, .int .u64 a.id]) (.agg #[.int .u8 b.kd, .int .u64 b.id])).run Try.prog w = .ok (.bool (!z)) w := by
  simp [binOp, eq_key ha hb, hz]
theorem eql_key {a b : Tk} (ha : a.ok) (hb : b.ok) {z : Bool} (hz : sameK a b = z) (w : World) : (binOp .eql 33 (.agg #[.int .u8 a.kd, .int .u64 a.id]) (.agg #[.int .u8 b.kd, .int .u64 b.id])).run Try.prog w = .ok (.bool z) w := by
  simp [binOp, eq_key ha hb, hz]

end Go.Proofs.Ytkjgmimfnmilfaa.Tm5
