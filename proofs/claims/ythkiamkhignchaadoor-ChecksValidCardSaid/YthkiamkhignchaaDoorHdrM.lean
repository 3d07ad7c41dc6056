/-
  What a chain tells, by value; a fault, and a header's bytes, by the document's answer.
  Conditions: none.
-/
import Derived.Test.YthkiamkhignchaaDoorHdrP
import Derived.Test.YthkiamkhignchaaDoorArr
namespace Go.Proofs.YthkiamkhignchaaDoor.Hd
set_option maxRecDepth 100000
open Go.RowKit

/-- a part's cells -/
def fgc (f : Fg) : List Value := [.bool f.is, .int .u32 f.id, .int .u16 f.off, .bool f.more]
/-- the cells of what a chain tells, but for its rest -/
def tc (t : Tl) (v : Value) : List Value := [.int .u8 t.last, v, .bool t.alert, .bool t.frag.is, .int .u32 t.frag.id, .int .u16 t.frag.off, .bool t.frag.more, .int .u8 t.code, .int .u32 t.place, .int .i64 t.e]
abbrev tv (t : Tl) (v : Value) : Value := .agg (tc t v).toArray
theorem tc_len {t : Tl} {v : Value} : (tc t v).length = 10 := rfl
theorem tc_one {t : Tl} {v : Value} (hv : v.oneCell' = true) : ∀ x ∈ tc t v, x.oneCell' = true := fun x hx => by
  simp only [tc, List.mem_cons, List.not_mem_nil, or_false] at hx
  rcases hx with rfl | rfl | rfl | rfl | rfl | rfl | rfl | rfl | rfl | rfl
  · rfl
  · exact hv
  all_goals rfl
/-- a variable for it, as it is made -/
def zt : Array Value := #[.int .u8 0, .slice none 0 0, .bool false, .bool false, .int .u32 0, .int .u16 0, .bool false, .int .u8 0, .int .u32 0, .int .i64 0]
theorem zt_tc : zt = (tc {} (.slice none 0 0)).toArray := rfl
abbrev nilV : Value := .slice none 0 0

end Go.Proofs.YthkiamkhignchaaDoor.Hd
