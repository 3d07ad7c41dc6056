/-
  What goes through a chain, by the code: its state in memory, and its small methods.
  Conditions: places and lengths stay below 2 to the 64th.
-/
import Derived.Test.YtfkjfdmepeahnaaHdrM
import Derived.Test.YtfkjfdmepeahnaaLayG
import Derived.Test.YtfkjfdmepeahnaaOps
namespace Go.Proofs.Ytfkjfdmepeahnaa.Hd
set_option maxRecDepth 100000
open Go.RowKit Ops

/-- a walk's state -/
structure St where
  mc : Bool
  next : Int
  p : Int
  told : Int
  first : Bool
  ended : Bool
  al : Bool
  frag : Fg
  rest : Value
  code : Int
  place : Int
/-- its cells -/
def wc (c : Nat) (s : St) : List Value := [.pointer (some ⟨c, 0, none⟩), .bool s.mc, .int .u8 s.next, .int .u64 s.p, .int .u64 s.told, .bool s.first, .bool s.ended, .bool s.al,
  .bool s.frag.is, .int .u32 s.frag.id, .int .u16 s.frag.off, .bool s.frag.more, s.rest, .int .u8 s.code, .int .u32 s.place]
def cut32 (p : Int) : Int := if 4294967295 < p then 4294967295 else p
def St.go (s : St) (f : Int) (long : Int) : St := { s with next := f, told := s.p, first := false, p := s.p + long }
def St.blame (s : St) (c p : Int) : St := { s with code := c, place := cut32 p }

section
variable {P : Nat → Prop} {w0 w : World} {L : List Blk} {i j g c b o r : Nat} {t : TypeId} {s : St}

theorem goOn_any (h : LayF P w0 w L) (hi : L[i]? = some (g, 84, wc c s)) (f long : Int) (hl : 0 ≤ long) (hs : 0 ≤ s.p) (hp : s.p + long < 18446744073709551616) :
    Calls Try.prog 60 #[.pointer (some ⟨g, 0, none⟩), .int .u8 f, .int .i64 long] w fun e w' => e = .returned (.tuple #[]) ∧ LayF P w0 w' (L.set i (g, 84, wc c (s.go f long))) ∧ w'.heap.size = w.heap.size := by
  have hm := List.mem_of_getElem? hi
  have c3 : w.cell? ⟨g, 3, none⟩ = some (.int .u64 s.p) := h.look hm rfl
  have c2 : w.cell? ⟨g, 2, none⟩ = some (.int .u8 s.next) := h.look hm rfl
  have c4 : w.cell? ⟨g, 4, none⟩ = some (.int .u64 s.told) := h.look hm rfl
  have c5 : w.cell? ⟨g, 5, none⟩ = some (.bool s.first) := h.look hm rfl
  have f2 := h.free hm 2
  have f3 := h.free hm 3
  have f4 := h.free hm 4
  have f5 := h.free hm 5
  have hw1 : IntKind.u64.wrap long = long := by rw [IntKind.wrap_u64]; omega
  have hw2 : IntKind.u64.wrap (s.p + long) = s.p + long := by rw [IntKind.wrap_u64]; omega
  have Y := veil (h.cells [(2, .int .u8 f), (4, .int .u64 s.p), (5, .bool false), (3, .int .u64 (s.p + long))] hi)
  clear hm hi h
  go_enter Try.func60, Try.ntmps60
  go_wp2_with fail
  go_end0
  exact ⟨rfl, Y.out, by simp [World.setCell]⟩

theorem nothing_any (h : LayF P w0 w L) (hi : L[i]? = some (g, 84, wc c s)) :
    Calls Try.prog 55 #[.pointer (some ⟨g, 0, none⟩)] w fun e w' => e = .returned (.int .i64 0) ∧ LayF P w0 w' (L.set i (g, 84, wc c { s with ended := true })) ∧ w'.heap.size = w.heap.size := by
  have hm := List.mem_of_getElem? hi
  have c6 : w.cell? ⟨g, 6, none⟩ = some (.bool s.ended) := h.look hm rfl
  have f6 := h.free hm 6
  have Y := veil (h.cells [(6, .bool true)] hi)
  clear hm hi h
  go_enter Try.func55, Try.ntmps55
  go_wp2_with fail
  go_ret
  exact ⟨rfl, Y.out, by simp [World.setCell]⟩

theorem made_flt (cd p : Int) (w : World) : (Instr.build 45 #[(0, .int .u8 cd), (1, .int .u32 p)]).run Try.prog w = .ok (.agg #[.int .u8 cd, .int .u32 p]) w := by kernel_rfl
theorem sizeFlt (x y : Value) : (Try.prog.info? 45).map (·.size) = some [x, y].length := by kernel_rfl

theorem blame_any (h : LayF P w0 w L) (hi : L[i]? = some (g, 84, wc c s)) (cd p : Int) (hp : 0 ≤ p ∧ p < 18446744073709551616) :
    Calls Try.prog 58 #[.pointer (some ⟨g, 0, none⟩), .int .u8 cd, .int .u64 p] w fun e w' => e = .returned (.int .i64 7) ∧ LayF P w0 w' (L.set i (g, 84, wc c (s.blame cd p))) ∧ w'.heap.size = w.heap.size := by
  have hm := List.mem_of_getElem? hi
  have T := veil (store_part (P := Try.prog) (o := 13) (ty := 45) (vs := [.int .u8 cd, .int .u32 (cut32 p)]) (h.at hm) (by simp [wc]) (sizeFlt _ _) (by simp [Value.oneCell']))
  have Y := veil (h.put i hi (wc c (s.blame cd p)))
  have B := veil (fun u => made_flt cd (cut32 p) u)
  have e : (wc c s).take 13 ++ [.int .u8 cd, .int .u32 (cut32 p)] ++ (wc c s).drop (13 + [Value.int .u8 cd, .int .u32 (cut32 p)].length) = wc c (s.blame cd p) := rfl
  rw [e] at T
  have hsz : (w.setRow g (wc c (s.blame cd p)).toArray).heap.size = w.heap.size := by simp [World.setRow]
  clear hm hi h e
  rcases (by omega : 4294967295 < p ∨ ¬ 4294967295 < p) with hq | hq
  · have ec : cut32 p = 4294967295 := if_pos hq
    have hq2 : ¬ p < 4294967295 := by omega
    generalize hz : wc c (s.blame cd p) = z at *
    rw [ec] at B T
    clear hz
    go_enter Try.func58, Try.ntmps58
    go_wp2_with (first
      | (refine wpList_build_of rfl _ _ rfl _ (by simp [Act.eval, Act.put]) (B.out _) ?_)
      | (refine wpList_store_of rfl _ _ rfl rfl rfl T.out ?_))
    go_ret
    exact ⟨rfl, Y.out, hsz⟩
  · have ec : cut32 p = p := if_neg hq
    have hw : IntKind.u32.wrap p = p := by rw [IntKind.wrap_u32]; omega
    generalize hz : wc c (s.blame cd p) = z at *
    rw [ec] at B T
    clear hz
    go_enter Try.func58, Try.ntmps58
    go_wp2_with (first
      | (refine wpList_build_of rfl _ _ rfl _ (by simp [Act.eval, Act.put]) (B.out _) ?_)
      | (refine wpList_store_of rfl _ _ rfl rfl rfl T.out ?_))
    go_ret
    exact ⟨rfl, Y.out, hsz⟩

theorem other_any (h : LayF P w0 w L) (hi : L[i]? = some (g, 84, wc c s)) (hj : L[j]? = some (c, 100, ct b o r)) (hij : i ≠ j) :
    Calls Try.prog 45 #[.pointer (some ⟨g, 0, none⟩)] w fun e w' => e = .returned (.int .i64 0) ∧ LayF P w0 w' ((L.set j (c, 100, ct b o 0)).set i (g, 84, wc c { s with rest := .slice (some ⟨b, o, none⟩) r r, ended := true })) ∧ w'.heap.size = w.heap.size := by
  have hm := List.mem_of_getElem? hi
  have c0 : w.cell? ⟨g, 0, none⟩ = some (.pointer (some ⟨c, 0, none⟩)) := h.look hm rfl
  have K := veil (h.rest hj)
  have hi2 : (L.set j (c, 100, ct b o 0))[i]? = some (g, 84, wc c s) := by rw [List.getElem?_set_ne (Ne.symm hij)]; exact hi
  clear hm h hi hj
  go_enter Try.func45, Try.ntmps45
  go_wp2_with fail
  refine (K.out).mono ?_
  rintro e w1 ⟨rfl, Y1, s1⟩
  have hm := List.mem_of_getElem? hi2
  have c6 : w1.cell? ⟨g, 6, none⟩ = some (.bool s.ended) := Y1.look hm rfl
  have c12 : w1.cell? ⟨g, 12, none⟩ = some s.rest := Y1.look hm rfl
  have f6 := Y1.free hm 6
  have f9 := Y1.free hm 12
  have Y := veil (Y1.cells [(12, .slice (some ⟨b, o, none⟩) r r), (6, .bool true)] hi2)
  clear hm Y1 K hi2
  go_wp2_with fail
  go_ret
  exact ⟨rfl, Y.out, by simpa [World.setCell] using s1⟩
end

end Go.Proofs.Ytfkjfdmepeahnaa.Hd
