/-
  What a chain tells, by value; a fault, and a header's bytes, by the document's answer.
  Conditions: none.
-/
import Derived.Test.YtfkjfdmepeahnaaHdrP
import Derived.Test.YtfkjfdmepeahnaaArr
namespace Go.Proofs.Ytfkjfdmepeahnaa.Hd
set_option maxRecDepth 100000
open Go.RowKit

/-- a part's cells -/
def fgc (f : Fg) : List Value := [.bool f.is, .int .u32 f.id, .int .u16 f.off, .bool f.more]
/-- the cells of what a chain tells, but for its rest -/
def tc (t : Tl) (v : Value) : List Value := [.int .u8 t.last, v, .bool t.alert, .bool t.frag.is, .int .u32 t.frag.id, .int .u16 t.frag.off, .bool t.frag.more, .int .u8 t.code, .int .u32 t.place, .int .i64 t.e]
abbrev tv (t : Tl) (v : Value) : Value := .agg (tc t v).toArray
theorem tc_len {t : Tl} {v : Value} : (tc t v).length = 10 := rfl
theorem tc_one {t : Tl} {v : Value} (hv : v.oneCell' = true) : ∀ x ∈ tc t v, x.oneCell' = true := fun x hx => by
  simp only [tc, List.mem_cons, List.not_mem_nil, or_false] at hx
  rcases hx with rfl | rfl | rfl | rfl | rfl | rfl | rfl | rfl | rfl | rfl
  · rfl
  · exact hv
  all_goals rfl
theorem sizeTold {t : Tl} {v : Value} : (Try.prog.info? 54).map (·.size) = some (tc t v).length := by rw [tc_len]; kernel_rfl
/-- a variable for it, as it is made -/
def zt : Array Value := #[.int .u8 0, .slice none 0 0, .bool false, .bool false, .int .u32 0, .int .u16 0, .bool false, .int .u8 0, .int .u32 0, .int .i64 0]
theorem zt_tc : zt = (tc {} (.slice none 0 0)).toArray := rfl
abbrev nilV : Value := .slice none 0 0

theorem made_err (n : Int) (w : World) : (Instr.build 54 #[(5, .int .i64 n)]).run Try.prog w = .ok (tv (errT n) nilV) w := by
  show (Instr.build 54 #[(5, .int .i64 n)]).run Try.prog w = .ok (.agg #[.int .u8 0, .slice none 0 0, .bool false, .bool false, .int .u32 0, .int .u16 0, .bool false, .int .u8 0, .int .u32 0, .int .i64 n]) w
  kernel_rfl
theorem made_none (w : World) : (Instr.build 54 #[]).run Try.prog w = .ok (tv {} nilV) w := by
  show (Instr.build 54 #[]).run Try.prog w = .ok (.agg #[.int .u8 0, .slice none 0 0, .bool false, .bool false, .int .u32 0, .int .u16 0, .bool false, .int .u8 0, .int .u32 0, .int .i64 0]) w
  kernel_rfl
theorem made_fault (c p : Int) (w : World) : (Instr.build 45 #[(0, .int .u8 c), (1, .int .u32 p)]).run Try.prog w = .ok (.agg #[.int .u8 c, .int .u32 p]) w := by kernel_rfl
theorem made_faulty (c p : Int) (al : Bool) (w : World) : (Instr.build 54 #[(2, .bool al), (4, .agg #[.int .u8 c, .int .u32 p]), (5, .int .i64 7)]).run Try.prog w = .ok (tv { alert := al, code := c, place := p, e := 7 } nilV) w := by
  show (Instr.build 54 #[(2, .bool al), (4, .agg #[.int .u8 c, .int .u32 p]), (5, .int .i64 7)]).run Try.prog w = .ok (.agg #[.int .u8 0, .slice none 0 0, .bool al, .bool false, .int .u32 0, .int .u16 0, .bool false, .int .u8 c, .int .u32 p, .int .i64 7]) w
  kernel_rfl
/-- what a chain tells goes into a variable -/
theorem told_store {w0 w : World} {L : List Blk} {g : Nat} {ty : TypeId} {cs : List Value} {t : Tl} {v : Value} (h : Lay w0 w L) (hm : (g, ty, cs) ∈ L) (hc : cs.length = 10) (hv : v.oneCell' = true) :
    (Instr.storeAt 54 (.pointer (some ⟨g, 0, none⟩)) (tv t v)).run Try.prog w = .ok () (w.setRow g (tc t v).toArray) :=
  store_all (h.at hm) (by rw [tc_len, hc]) sizeTold (tc_one hv)
theorem told_load {w0 w : World} {L : List Blk} {g : Nat} {ty : TypeId} {t : Tl} {v : Value} (h : Lay w0 w L) (hm : (g, ty, tc t v) ∈ L) :
    (Instr.loadAt 54 (.pointer (some ⟨g, 0, none⟩))).run Try.prog w = .ok (tv t v) w :=
  h.load hm (part_all _) Try.underlying54 rfl sizeTold
theorem told_ret {w0 w : World} {L : List Blk} {g : Nat} {ty : TypeId} {t : Tl} {v : Value} {fn : Func} {p : Tmp} {tmps : Array Value} (h : Lay w0 w L) (hm : (g, ty, tc t v) ∈ L) (hr : fn.results = #[.cell p 54]) (hp : tmps.getD p undef = .pointer (some ⟨g, 0, none⟩)) :
    (results fn tmps).run Try.prog w = .ok (tv t v) w := ret_row hr hp (h.range hm (part_all _)) Try.underlying54 rfl sizeTold

set_option maxHeartbeats 1000000 in
theorem faulty_any (c p : Int) (al : Bool) (w : World) (hp : 0 ≤ p ∧ p < 18446744073709551616) : Calls Try.prog 46 #[.int .u8 c, .int .u64 p, .bool al] w fun e w' => e = .returned (tv (faulT c p al) nilV) ∧ Below w.heap.size w w' := by
  obtain ⟨Z, hZ⟩ : ∃ Z, Z = zt := ⟨_, rfl⟩
  have hz : Hid (Z.toList.length = 10) := by rw [hZ]; exact rfl
  have Y := (Lay.begin w).newA Z 54 (g := w.heap.size) rfl
  have T := veil (told_store (t := faulT c p al) (v := nilV) Y mem0 hz.out rfl)
  have Y1 := veil (Y.put 0 rfl (tc (faulT c p al) nilV))
  simp only [List.set_cons_zero] at Y1
  clear Y
  generalize Z.toList = ZL at *
  unfold zt at hZ
  subst hZ
  rcases (by omega : 4294967295 < p ∨ ¬ 4294967295 < p) with h | h
  · have B := veil (fun u => made_faulty c 4294967295 al u)
    have B2 := veil (fun u => made_fault c 4294967295 u)
    have e : ({ alert := al, code := c, place := 4294967295, e := 7 } : Tl) = faulT c p al := by unfold faulT; rw [if_pos h]
    rw [e] at B
    generalize faulT c p al = t at *
    go_enter Try.func46, Try.ntmps46
    go_wp2_with (first
      | (refine wpList_build_of rfl 54 #[(2, .tmp 9), (4, .tmp 13), (5, .const (.int .i64 7))] rfl _ (by simp [Act.eval, Act.put]) (B.out _) ?_)
      | (refine wpList_build_of rfl 45 #[(0, .tmp 10), (1, .tmp 12)] rfl _ (by simp [Act.eval, Act.put]) (B2.out _) ?_)
      | (refine wpList_store_of rfl _ _ rfl rfl rfl T.out ?_))
    refine bodyPost_ret (told_ret Y1.out mem0 rfl rfl) rfl ?_
    exact ⟨rfl, Y1.out.below⟩
  · have B := veil (fun u => made_faulty c p al u)
    have B2 := veil (fun u => made_fault c p u)
    have e : ({ alert := al, code := c, place := p, e := 7 } : Tl) = faulT c p al := by unfold faulT; rw [if_neg h]
    rw [e] at B
    have hw : p % 4294967296 = p := by omega
    generalize faulT c p al = t at *
    go_enter Try.func46, Try.ntmps46
    go_wp2_with (first
      | (refine wpList_build_of rfl 54 #[(2, .tmp 9), (4, .tmp 13), (5, .const (.int .i64 7))] rfl _ (by simp [Act.eval, Act.put]) (B.out _) ?_)
      | (refine wpList_build_of rfl 45 #[(0, .tmp 10), (1, .tmp 12)] rfl _ (by simp [Act.eval, Act.put]) (B2.out _) ?_)
      | (refine wpList_store_of rfl _ _ rfl rfl rfl T.out ?_))
    refine bodyPost_ret (told_ret Y1.out mem0 rfl rfl) rfl ?_
    exact ⟨rfl, Y1.out.below⟩

end Go.Proofs.Ytfkjfdmepeahnaa.Hd
