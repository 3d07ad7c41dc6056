/-
  Chain, by the code: whatever chain it is.
  Conditions: at most 16000000 bytes.
-/
import Derived.Test.YtfkjfdmepeahnaaHdcG
import Derived.Test.YtfkjfdmepeahnaaHdrA
import Derived.Test.YtfkjfdmepeahnaaStep
namespace Go.Proofs.Ytfkjfdmepeahnaa.Hd
set_option maxRecDepth 100000
open Go.RowKit Ops

/-! ### what a chain tells with each error -/
theorem opts_code (h : List Int) (p : Int) (hop mc : Bool) (i : Nat) (al : Bool) : (opts h p hop mc i al).last = 0 ∧ (opts h p hop mc i al).frag = {} ∧ (((opts h p hop mc i al).e = 0 ∧ (opts h p hop mc i al).code = 0 ∧ (opts h p hop mc i al).place = 0) ∨ (opts h p hop mc i al).e = 7 ∨ ((opts h p hop mc i al).e ≠ 0 ∧ (opts h p hop mc i al).e ≠ 7 ∧ (opts h p hop mc i al).alert = false ∧ (opts h p hop mc i al).code = 0 ∧ (opts h p hop mc i al).place = 0)) := by
  fun_induction opts h p hop mc i al <;> simp_all [errT, faulT]
theorem opts_tells {o : Tl} {al : Bool} (h0 : o.e ≠ 0) (hq : o.last = 0 ∧ o.frag = {} ∧ ((o.e = 0 ∧ o.code = 0 ∧ o.place = 0) ∨ o.e = 7 ∨ (o.e ≠ 0 ∧ o.e ≠ 7 ∧ o.alert = false ∧ o.code = 0 ∧ o.place = 0))) (hr : o.rest = []) :
    ∀ T : Tl, { o with alert := decide (o.e = 7) && (al || o.alert) } = T → (T.e = 0 ∧ T.code = 0 ∧ T.place = 0) ∨ (T.e = 7 ∧ T.last = 0 ∧ T.rest = [] ∧ T.frag = {}) ∨ (T.e ≠ 0 ∧ T.e ≠ 7 ∧ T = errT T.e) := by
  rintro T rfl
  obtain ⟨q1, q2, q | q | ⟨q3, q4, q5, q6, q7⟩⟩ := hq
  · exact absurd q.1 h0
  · exact .inr (.inl ⟨q, q1, hr, q2⟩)
  · refine .inr (.inr ⟨q3, q4, ?_⟩)
    cases o
    simp_all [errT]
theorem walk_tells (next : Int) (zs : List Int) (p told : Int) (first mc al : Bool) : ∀ T : Tl, walk next zs p told first mc al = T →
    (T.e = 0 ∧ T.code = 0 ∧ T.place = 0) ∨ (T.e = 7 ∧ T.last = 0 ∧ T.rest = [] ∧ T.frag = {}) ∨ (T.e ≠ 0 ∧ T.e ≠ 7 ∧ T = errT T.e) := by
  fun_induction walk next zs p told first mc al
  case case3 => exact opts_tells (by assumption) (opts_code _ _ _ _ _ _) (opts_rest _ _ _ _ _ _)
  all_goals first
    | assumption
    | (rintro T rfl; refine .inr (.inl ⟨rfl, rfl, rfl, rfl⟩))
    | (rintro T rfl; refine .inl ⟨rfl, rfl, rfl⟩)
    | (rintro T rfl; refine .inr (.inr ⟨by simp [errT], by simp [errT], rfl⟩))
theorem walk_first_told (next : Int) (zs : List Int) (p a b : Int) (mc al : Bool) : walk next zs p a true mc al = walk next zs p b true mc al := by
  rw [walk.eq_def next zs p a true mc al, walk.eq_def next zs p b true mc al]
  simp only [Bool.true_eq_false, and_false, if_false]

/-! ### begin -/
/-- a walk ahead of the first header -/
def st0 (next p : Int) (mc : Bool) : St := { mc := mc, next := next, p := p, told := if 8 ≤ p then p - 8 else 0, first := true, ended := false, al := false, frag := {}, rest := nilV, code := 0, place := 0 }
def st1 (next p : Int) (mc : Bool) : St := { st0 next p mc with told := 0 }
theorem made_walk (c : Nat) (next p : Int) (mc : Bool) (w : World) : (Instr.build 84 #[(0, .pointer (some ⟨c, 0, none⟩)), (1, .bool mc), (2, .int .u8 next), (3, .int .u64 p), (5, .bool true)]).run Try.prog w = .ok (.agg (wc c (st1 next p mc)).toArray) w := by
  show (Instr.build 84 #[(0, .pointer (some ⟨c, 0, none⟩)), (1, .bool mc), (2, .int .u8 next), (3, .int .u64 p), (5, .bool true)]).run Try.prog w = .ok (.agg #[.pointer (some ⟨c, 0, none⟩), .bool mc, .int .u8 next, .int .u64 p, .int .u64 0, .bool true, .bool false, .bool false, .bool false, .int .u32 0, .int .u16 0, .bool false, .slice none 0 0, .int .u8 0, .int .u32 0]) w
  kernel_rfl
theorem box_walk (z : Array Value) (w : World) : (Instr.box 84 (.agg z)).run Try.prog w = .ok (.pointer (some ⟨w.heap.size, 0, none⟩)) (w.alloc (.cells z 84)) := by kernel_rfl
theorem un_begin (next p : Int) (mc : Bool) (zs : List Int) (hn : 0 ≤ next ∧ next ≤ 255) (hp : 0 ≤ p ∧ p ≤ 4294967295) (hl : zs.length ≤ 16000000) : Un (chain next zs p mc) (st0 next p mc) (lef zs 0 zs.length) := by
  have e : lef zs 0 zs.length = zs := by rw [lef, List.drop_zero, List.take_length]
  rw [e]
  refine ⟨?_, rfl, rfl, rfl, hn, ⟨hp.1, by show p + _ < _; omega⟩, by unfold st0; simp only []; split <;> omega⟩
  show walk next zs p (if 8 ≤ p then p - 8 else 0) (true && decide (p = 40)) mc false = walk next zs p (teller p) (decide (p = 40)) mc false
  by_cases h : p = 40
  · rw [decide_eq_true h]
    exact walk_first_told next zs p _ _ mc false
  · rw [decide_eq_false h, teller, if_neg h]
    rfl

set_option linter.unusedSimpArgs false in
set_option maxHeartbeats 4000000 in
theorem begin_any {P : Nat → Prop} {w0 w : World} {L : List Blk} (h : LayF P w0 w L) (A : Option Addr) (n cc : Nat) (zs : List Int) (hl : zs.length = n) (hn : n ≤ 16000000) (hr : Rd w A zs) (next p : Int) (mc : Bool) (hp : 0 ≤ p ∧ p ≤ 4294967295) :
    Calls Try.prog 37 #[.int .u8 next, .slice A n cc, .int .u32 p, .bool mc] w fun e w' => ∃ b, w.heap.size ≤ b ∧ e = .returned (.pointer (some ⟨b + 2, 0, none⟩)) ∧ LayF P w0 w' (L3 (b + 2) (b + 1) b (st0 next p mc) (ct b 0 n) zs ++ L) := by
  have K := veil (h.cut A n cc hl (by omega) hr)
  have hwp : IntKind.u64.wrap p = p := by rw [IntKind.wrap_u64]; omega
  clear h hl hn hr
  go_enter Try.func37, Try.ntmps37
  go_wp2_with fail
  refine (K.out).mono ?_
  rintro e w1 ⟨b, hb, rfl, Y1, s1⟩
  have Y2 := Y1.new (wc (b + 1) (st1 next p mc)) 84 (g := b + 2) s1.symm
  have B := veil (fun u => made_walk (b + 1) next p mc u)
  have X := veil (box_walk (wc (b + 1) (st1 next p mc)).toArray w1)
  rw [s1] at X
  obtain ⟨w2, hw2⟩ : ∃ w2, w1.alloc (.cells (wc (b + 1) (st1 next p mc)).toArray 84) = w2 := ⟨_, rfl⟩
  rw [hw2] at X Y2
  have YD := veil Y2.drew
  have D3 := veil (YD.out.look mem0 (o := 3) rfl)
  have hz : wc (b + 1) (st1 next p mc) = wc (b + 1) (st1 next p mc) := rfl
  generalize hq : (wc (b + 1) (st1 next p mc)).toArray = z at *
  clear K Y1 Y2 hw2 s1 hz hq
  go_wp2_with (first
    | (refine wpList_build_of rfl _ _ rfl _ (by simp [Act.eval, Act.put]) (B.out _) ?_)
    | (refine wpList_box_of rfl _ _ rfl rfl X.out ?_))
  clear B X
  have c4 : w2.drew.cell? ⟨b + 2, 4, none⟩ = some (.int .u64 0) := YD.out.look mem0 rfl
  have f4 := YD.out.free mem0 4
  obtain ⟨m, hm⟩ : ∃ m, (if 8 < p then (8 : Int) else p) = m := ⟨_, rfl⟩
  obtain ⟨V, hV⟩ : ∃ V, (if 8 ≤ p then p - 8 else 0) = V := ⟨_, rfl⟩
  have hv : IntKind.u64.wrap (p - m) = V := by
    subst hm hV
    rw [IntKind.wrap_u64]
    split <;> split <;> omega
  have T4 := veil (YD.out.cells (i := 0) [(4, .int .u64 V)] rfl)
  have D4 := veil (T4.out.look mem0 (o := 3) rfl)
  have HV := veil hV
  clear hV
  refine wp_region_noPanic ?_
  refine wp_region_held_drew (S := (fun w' => w'.cell? ⟨b + 2, 3, none⟩ = some (.int .u64 p))) (by kernel_rfl) D3.out (fun hHeld => ?_)
  refine wpAnyH_take (i := 0) (v := ?_) (by rfl) (by kernel_rfl) (by kernel_rfl) (by kernel_rfl) (fun _ _ _ h => h) (Or.inl ⟨by rfl, ?_⟩) hHeld ?_
  rotate_left
  · intro w' hSw
    (try dsimp only at hSw)
    simp only [List.getElem_toArray, List.getElem_cons_zero, List.getElem_cons_succ]
    go_simp
    all_goals (try with_reducible rfl)
  try simp only [Act.put, List.setIfInBounds_toArray, List.set_cons_zero, List.set_cons_succ, List.getElem_toArray, List.getElem_cons_zero, List.getElem_cons_succ]
  refine wpAnyH_take (i := 1) (v := ?_) (by rfl) (by kernel_rfl) (by kernel_rfl) (by kernel_rfl) (fun _ _ _ h => h) (Or.inl ⟨by rfl, ?_⟩) hHeld ?_
  rotate_left
  · intro w' hSw
    (try dsimp only at hSw)
    simp only [List.getElem_toArray, List.getElem_cons_zero, List.getElem_cons_succ]
    go_simp
    all_goals (try with_reducible rfl)
  try simp only [Act.put, List.setIfInBounds_toArray, List.set_cons_zero, List.set_cons_succ, List.getElem_toArray, List.getElem_cons_zero, List.getElem_cons_succ]
  refine wpAnyH_take (i := 2) (v := ?_) (by rfl) (by kernel_rfl) (by kernel_rfl) (by kernel_rfl) (fun _ _ _ h => h) (Or.inl ⟨by rfl, ?_⟩) hHeld ?_
  rotate_left
  · intro w' hSw
    (try dsimp only at hSw)
    simp only [List.getElem_toArray, List.getElem_cons_zero, List.getElem_cons_succ]
    go_simp
    all_goals (try with_reducible rfl)
  try simp only [Act.put, List.setIfInBounds_toArray, List.set_cons_zero, List.set_cons_succ, List.getElem_toArray, List.getElem_cons_zero, List.getElem_cons_succ]
  refine wpAnyH_take (i := 3) (v := ?_) (by rfl) (by kernel_rfl) (by kernel_rfl) (by kernel_rfl) (fun _ _ _ h => h) (Or.inl ⟨by rfl, ?_⟩) hHeld ?_
  rotate_left
  · intro w' hSw
    (try dsimp only at hSw)
    simp only [List.getElem_toArray, List.getElem_cons_zero, List.getElem_cons_succ]
    go_simp
    all_goals (try with_reducible rfl)
  try simp only [Act.put, List.setIfInBounds_toArray, List.set_cons_zero, List.set_cons_succ, List.getElem_toArray, List.getElem_cons_zero, List.getElem_cons_succ]
  refine wpAnyH_take (i := 4) (v := ?_) (by rfl) (by kernel_rfl) (by kernel_rfl) (by kernel_rfl) (fun _ _ _ h => h) (Or.inl ⟨by rfl, ?_⟩) hHeld ?_
  rotate_left
  · intro w' hSw
    (try dsimp only at hSw)
    simp only [List.getElem_toArray, List.getElem_cons_zero, List.getElem_cons_succ]
    go_simp
    all_goals (try with_reducible rfl)
  try simp only [Act.put, List.setIfInBounds_toArray, List.set_cons_zero, List.set_cons_succ, List.getElem_toArray, List.getElem_cons_zero, List.getElem_cons_succ]
  refine wpAnyH_take (i := 5) (v := ?_) (by rfl) (by kernel_rfl) (by kernel_rfl) (by kernel_rfl) (fun _ _ _ h => h) (Or.inl ⟨by rfl, ?_⟩) hHeld ?_
  rotate_left
  · intro w' hSw
    (try dsimp only at hSw)
    simp only [List.getElem_toArray, List.getElem_cons_zero, List.getElem_cons_succ]
    go_simp
    all_goals (try with_reducible rfl)
  try simp only [Act.put, List.setIfInBounds_toArray, List.set_cons_zero, List.set_cons_succ, List.getElem_toArray, List.getElem_cons_zero, List.getElem_cons_succ]
  refine wpAnyH_take (i := 6) (v := ?_) (by rfl) (by kernel_rfl) (by kernel_rfl) (by kernel_rfl) (fun _ _ _ h => h) (Or.inl ⟨by rfl, ?_⟩) hHeld ?_
  rotate_left
  · intro w' hSw
    (try dsimp only at hSw)
    simp only [List.getElem_toArray, List.getElem_cons_zero, List.getElem_cons_succ]
    go_simp
    all_goals (try with_reducible rfl)
  try simp only [Act.put, List.setIfInBounds_toArray, List.set_cons_zero, List.set_cons_succ, List.getElem_toArray, List.getElem_cons_zero, List.getElem_cons_succ]
  refine wpAnyH_take (i := 7) (v := ?_) (by rfl) (by kernel_rfl) (by kernel_rfl) (by kernel_rfl) (fun _ _ _ h => h) (Or.inl ⟨by rfl, ?_⟩) hHeld ?_
  rotate_left
  · intro w' hSw
    (try dsimp only at hSw)
    simp only [List.getElem_toArray, List.getElem_cons_zero, List.getElem_cons_succ]
    go_simp
    all_goals (try with_reducible rfl)
  try simp only [Act.put, List.setIfInBounds_toArray, List.set_cons_zero, List.set_cons_succ, List.getElem_toArray, List.getElem_cons_zero, List.getElem_cons_succ]
  refine wpAnyH_take (i := 8) (v := ?_) (by rfl) (by kernel_rfl) (by kernel_rfl) (by kernel_rfl) (fun _ _ _ h => h) (Or.inl ⟨by rfl, ?_⟩) hHeld ?_
  rotate_left
  · intro w' hSw
    (try dsimp only at hSw)
    simp only [List.getElem_toArray, List.getElem_cons_zero, List.getElem_cons_succ]
    go_simp
    all_goals (try with_reducible rfl)
  try simp only [Act.put, List.setIfInBounds_toArray, List.set_cons_zero, List.set_cons_succ, List.getElem_toArray, List.getElem_cons_zero, List.getElem_cons_succ]
  refine wpAnyH_take (i := 9) (v := ?_) (by rfl) (by kernel_rfl) (by kernel_rfl) (by kernel_rfl) (fun _ _ _ h => h) (Or.inl ⟨by rfl, ?_⟩) hHeld ?_
  rotate_left
  · intro w' hSw
    (try dsimp only at hSw)
    simp only [List.getElem_toArray, List.getElem_cons_zero, List.getElem_cons_succ]
    go_simp
    all_goals (try with_reducible rfl)
  try simp only [Act.put, List.setIfInBounds_toArray, List.set_cons_zero, List.set_cons_succ, List.getElem_toArray, List.getElem_cons_zero, List.getElem_cons_succ]
  refine wpAnyH_take (i := 10) (v := ?_) (by rfl) (by kernel_rfl) (by kernel_rfl) (by kernel_rfl) (fun _ _ _ h => h) (Or.inl ⟨by rfl, ?_⟩) hHeld ?_
  rotate_left
  · intro w' hSw
    (try dsimp only at hSw)
    simp only [List.getElem_toArray, List.getElem_cons_zero, List.getElem_cons_succ]
    go_simp
    all_goals (try with_reducible rfl)
  try simp only [Act.put, List.setIfInBounds_toArray, List.set_cons_zero, List.set_cons_succ, List.getElem_toArray, List.getElem_cons_zero, List.getElem_cons_succ]
  refine wpAnyH_take (i := 11) (v := ?_) (by rfl) (by kernel_rfl) (by kernel_rfl) (by kernel_rfl) (fun _ _ _ h => h) (Or.inl ⟨by rfl, ?_⟩) hHeld ?_
  rotate_left
  · intro w' hSw
    (try dsimp only at hSw)
    simp only [List.getElem_toArray, List.getElem_cons_zero, List.getElem_cons_succ]
    go_simp
    all_goals (try with_reducible rfl)
  try simp only [Act.put, List.setIfInBounds_toArray, List.set_cons_zero, List.set_cons_succ, List.getElem_toArray, List.getElem_cons_zero, List.getElem_cons_succ]
  refine wpAnyH_take (i := 12) (v := ?_) (by rfl) (by kernel_rfl) (by kernel_rfl) (by kernel_rfl) (fun _ _ _ h => h) (Or.inl ⟨by rfl, ?_⟩) hHeld ?_
  rotate_left
  · intro w' hSw
    (try dsimp only at hSw)
    simp only [List.getElem_toArray, List.getElem_cons_zero, List.getElem_cons_succ]
    go_simp
    all_goals (try with_reducible rfl)
  try simp only [Act.put, List.setIfInBounds_toArray, List.set_cons_zero, List.set_cons_succ, List.getElem_toArray, List.getElem_cons_zero, List.getElem_cons_succ]
  refine wpAnyH_ready (rs := [13]) (by kernel_rfl) (by simp) ?_
  refine AllReadyH.cons (by rfl) (fun K hK => ?_) AllReadyH.nil
  simp only [List.getElem_toArray, List.getElem_cons_zero, List.getElem_cons_succ]
  go_simp
  (try dsimp only)
  refine hK.out _ _ D4.out (fun hHeld => ?_)
  clear hK K
  try simp only [Act.put, List.setIfInBounds_toArray, List.set_cons_zero, List.set_cons_succ, List.getElem_toArray, List.getElem_cons_zero, List.getElem_cons_succ]
  refine wpAnyH_done (by kernel_rfl) ?_ _
  refine NoPanic.normal ?_
  clear hHeld
  go_wp2_with fail
  go_ret
  refine ⟨b, hb, rfl, ?_⟩
  have e0 : st0 next p mc = { st1 next p mc with told := V } := by rw [← HV.out]; rfl
  rw [e0]
  exact T4.out

/-! ### Chain -/
/-- the rest that a chain hands out: nothing, or a part of a block of its own, with no room behind it -/
def RestOf (w w' : World) (rs : List Int) (A : Option Addr) (n : Nat) : Prop := (A = none ∧ n = 0 ∧ rs = []) ∨ ∃ b o zs, A = some ⟨b, o, none⟩ ∧ w.heap.size ≤ b ∧ Row w' b 5 (bv zs).toArray ∧ rs = lef zs o n ∧ o + n ≤ zs.length
abbrev fltV (T : Tl) : Value := .agg #[.int .u8 T.code, .int .u32 T.place]
/-- what a call of Chain answers -/
def Told6 (w : World) (T : Tl) (e : Ending) (w' : World) : Prop := ∃ A n, e = .returned (.tuple #[.int .u8 T.last, .slice A n n, .bool T.alert, .agg (fgc T.frag).toArray, fltV T, .int .i64 T.e]) ∧ RestOf w w' T.rest A n ∧ Below w.heap.size w w'

theorem ret_six {w : World} {P : Program} {fn : Func} {a b c d f h : Tmp} {t1 t2 : TypeId} {tmps : Array Value} {g1 g2 : Nat} {vs us : List Value} {x y z v : Value} {d1 d2 : TypeDesc} (hr : fn.results = #[.tmp a, .tmp b, .tmp c, .cell d t1, .cell f t2, .tmp h])
    (ha : tmps.getD a undef = x) (hb : tmps.getD b undef = y) (hc : tmps.getD c undef = z) (hd : tmps.getD d undef = .pointer (some ⟨g1, 0, none⟩)) (hf : tmps.getD f undef = .pointer (some ⟨g2, 0, none⟩)) (hh : tmps.getD h undef = v)
    (h1 : w.rangeAt g1 0 vs) (h2 : w.rangeAt g2 0 us) (hu1 : P.underlying t1 = some d1) (hd1 : d1.isRow = true) (hi1 : (P.info? t1).map (·.size) = some vs.length) (hu2 : P.underlying t2 = some d2) (hd2 : d2.isRow = true) (hi2 : (P.info? t2).map (·.size) = some us.length) :
    (results fn tmps).run P w = .ok (.tuple #[x, y, z, .agg vs.toArray, .agg us.toArray, v]) w := by
  have ha' : tmps[a]?.getD undef = x := by simpa using ha
  have hb' : tmps[b]?.getD undef = y := by simpa using hb
  have hc' : tmps[c]?.getD undef = z := by simpa using hc
  have hd' : tmps[d]?.getD undef = .pointer (some ⟨g1, 0, none⟩) := by simpa using hd
  have hf' : tmps[f]?.getD undef = .pointer (some ⟨g2, 0, none⟩) := by simpa using hf
  have hh' : tmps[h]?.getD undef = v := by simpa using hh
  simp [results, hr, ha', hb', hc', hd', hf', hh', asAddr, run_loadVar_mid w g1 0 t1 vs d1 h1 hu1 hd1 hi1, run_loadVar_mid w g2 0 t2 us d2 h2 hu2 hd2 hi2]
theorem sizeFr4 (f : Fg) : (Try.prog.info? 27).map (·.size) = some (fgc f).length := by rw [show (fgc f).length = 4 from rfl]; kernel_rfl
theorem one_fg (f : Fg) : ∀ x ∈ fgc f, x.oneCell' = true := fun x hx => by
  simp only [fgc, List.mem_cons, List.not_mem_nil, or_false] at hx
  rcases hx with rfl | rfl | rfl | rfl <;> rfl
def flc (c p : Int) : List Value := [.int .u8 c, .int .u32 p]
theorem sizeFl (c p : Int) : (Try.prog.info? 45).map (·.size) = some (flc c p).length := by rw [show (flc c p).length = 2 from rfl]; kernel_rfl
theorem one_fl (c p : Int) : ∀ x ∈ flc c p, x.oneCell' = true := fun x hx => by
  simp only [flc, List.mem_cons, List.not_mem_nil, or_false] at hx
  rcases hx with rfl | rfl <;> rfl
theorem made_fg (w : World) : (Instr.build 27 #[]).run Try.prog w = .ok (.agg (fgc {}).toArray) w := by
  show (Instr.build 27 #[]).run Try.prog w = .ok (.agg #[.bool false, .int .u32 0, .int .u16 0, .bool false]) w
  kernel_rfl
theorem made_fl (w : World) : (Instr.build 45 #[]).run Try.prog w = .ok (.agg (flc 0 0).toArray) w := by
  show (Instr.build 45 #[]).run Try.prog w = .ok (.agg #[.int .u8 0, .int .u32 0]) w
  kernel_rfl
/-- what Chain's last lines see of the walk -/
def Sees (w : World) (g : Nat) (s : St) : Prop := w.cell? ⟨g, 2, none⟩ = some (.int .u8 s.next) ∧ w.cell? ⟨g, 12, none⟩ = some s.rest ∧ w.cell? ⟨g, 7, none⟩ = some (.bool s.al) ∧ w.rangeAt g 8 (fgc s.frag) ∧ w.rangeAt g 13 (flc s.code s.place)
theorem sees_of {P : Nat → Prop} {w0 w : World} {L : List Blk} {g c : Nat} {s : St} (h : LayF P w0 w L) (hm : (g, 84, wc c s) ∈ L) : Sees w g s :=
  ⟨h.look hm rfl, h.look hm rfl, h.look hm rfl, h.range hm (fun j v hv => by
    match j, hv with
    | 0, hv => exact hv
    | 1, hv => exact hv
    | 2, hv => exact hv
    | 3, hv => exact hv
    | j + 4, hv => simp [fgc] at hv), h.range hm (fun j v hv => by
    match j, hv with
    | 0, hv => exact hv
    | 1, hv => exact hv
    | j + 2, hv => simp [flc] at hv)⟩

set_option linter.unusedSimpArgs false in
set_option maxHeartbeats 8000000 in
theorem codeChain (next : Int) (zs : List Int) (A : Option Addr) (n cc : Nat) (p : Int) (mc : Bool) (w : World) (hn : 0 ≤ next ∧ next ≤ 255) (hr : Rd w A zs) (hl : zs.length = n) (hz : Byt zs) (hn2 : n ≤ 16000000) (hp : 0 ≤ p ∧ p ≤ 4294967295) :
    Calls Try.prog 22 #[.int .u8 next, .slice A n cc, .int .u32 p, .bool mc] w (Told6 w (chain next zs p mc)) := by
  obtain ⟨T, hT⟩ : ∃ T, chain next zs p mc = T := ⟨_, rfl⟩
  have U := un_begin next p mc zs hn hp (by omega)
  have VT := veil (walk_tells _ _ _ _ _ _ _ _ (show walk next zs p (teller p) (decide (p = 40)) mc false = T from hT))
  rw [hT] at U ⊢
  obtain ⟨ZF, hZF⟩ : ∃ Z : Array Value, Z = #[.bool false, .int .u32 0, .int .u16 0, .bool false] := ⟨_, rfl⟩
  obtain ⟨ZX, hZX⟩ : ∃ Z : Array Value, Z = #[.int .u8 0, .int .u32 0] := ⟨_, rfl⟩
  have hzf : Hid (ZF.toList.length = 4) := by rw [hZF]; exact rfl
  have hzx : Hid (ZX.toList.length = 2) := by rw [hZX]; exact rfl
  have Y0 := ((Lay.begin w).newA ZF 27 (g := w.heap.size) rfl).newA ZX 45 (g := w.heap.size + 1) (by simp)
  have K1 := veil (begin_any (LayF.of Y0) A n cc zs hl hn2 (hr.keep Y0.below) next p mc hp)
  have VU := veil U
  have VZ := veil hz
  have VL := veil hl
  have VN := veil hn2
  clear Y0 hT U hz hl hn2 hr hn hp
  generalize ZF.toList = ZFL at *
  generalize ZX.toList = ZXL at *
  subst hZF hZX
  go_enter Try.func22, Try.ntmps22
  go_wp2_with fail
  refine (K1.out).mono ?_
  rintro e w1 ⟨b, hb, rfl, Y1⟩
  have KT := veil (through_any ((Y1.sub (List.sublist_append_left (L3 (b + 2) (b + 1) b (st0 next p mc) (ct b 0 n) zs) _)).rebase) VZ.out (by rw [VL.out]; omega) (by rw [VL.out]; exact VN.out) (by rw [VL.out] at VU; exact VU.out))
  have V1 := veil Y1
  have hbw : w.heap.size ≤ b := by
    have : w.heap.size ≤ ((w.alloc (.cells #[.bool false, .int .u32 0, .int .u16 0, .bool false] 27)).alloc (.cells #[.int .u8 0, .int .u32 0] 45)).heap.size := by simp; omega
    omega
  clear K1 Y1 VU hb
  go_wp2_with fail
  refine (KT.out).mono ?_
  rintro e w2 ⟨s, cu, rfl, Y2, hD, hF⟩
  have Y3 := Y2.join V1.out rfl (fun k hk => hk)
  have VY := veil (show LayF (fun k => k < w.heap.size) w w2 [(b + 2, 84, wc (b + 1) s), (b + 1, 100, cu), (b, 5, bv zs), (w.heap.size + 1, 45, ZXL), (w.heap.size, 27, ZFL)] from Y3)
  have VD := veil hD
  have VF := veil hF
  clear KT V1 Y2 Y3 hD hF
  generalize hg : b + 2 = g at *
  generalize hc : b + 1 = c at *
  rcases VT.out with ⟨t0, t1, t2⟩ | ⟨t0, t1, t2, t3⟩ | ⟨t0, t1, t2⟩
  · have D := VD.out t0
    have d1 := D.last
    have d2 := D.al
    have d3 := D.frag
    have VR := veil D.rest
    rw [t0]
    have YD := veil VY.out.drew
    have T1 := veil (store_all (P := Try.prog) (ty := 27) (vs := fgc T.frag) (YD.out.at mem4) (by rw [hzf.out]; rfl) (sizeFr4 _) (one_fg _))
    have Y1 := veil (YD.out.put 4 rfl (fgc T.frag))
    simp only [List.set_cons_zero, List.set_cons_succ] at Y1
    have T2 := veil (store_all (P := Try.prog) (ty := 45) (vs := flc 0 0) (Y1.out.at mem3) (by rw [hzx.out]; rfl) (sizeFl _ _) (one_fl _ _))
    have Y2 := veil (Y1.out.put 3 rfl (flc 0 0))
    simp only [List.set_cons_zero, List.set_cons_succ] at Y2
    have S0 := sees_of YD.out mem0
    have S1 := sees_of Y1.out mem0
    have S2 := sees_of Y2.out mem0
    unfold Sees at S0 S1 S2
    rw [d1, d2, d3] at S0 S1 S2
    obtain ⟨R, hR⟩ : ∃ R, s.rest = R := ⟨_, rfl⟩
    rw [hR] at S0 S1 S2 VR
    generalize s.code = sc at *
    generalize s.place = sp at *
    replace S0 := veil S0
    replace S1 := veil S1
    replace S2 := veil S2
    clear D d1 d2 d3 VD VF VY hR hzf hzx
    go_wp2_with fail
    refine wp_region_noPanic ?_
    refine wp_region_held_drew (S := (fun w' => w'.cell? ⟨g, 2, none⟩ = some (.int .u8 T.last) ∧ w'.cell? ⟨g, 12, none⟩ = some R ∧ w'.cell? ⟨g, 7, none⟩ = some (.bool T.alert) ∧ w'.rangeAt g 8 (fgc T.frag) ∧ w'.rangeAt g 13 (flc sc sp))) (by kernel_rfl) S0.out (fun hHeld => ?_)
    refine wpAnyH_take (i := 0) (v := ?_) (by rfl) (by kernel_rfl) (by kernel_rfl) (by kernel_rfl) (fun _ _ _ h => h) (Or.inl ⟨by rfl, ?_⟩) hHeld ?_
    rotate_left
    · intro w' hSw
      (try dsimp only at hSw)
      simp only [List.getElem_toArray, List.getElem_cons_zero, List.getElem_cons_succ]
      go_simp
      all_goals (try with_reducible rfl)
    try simp only [Act.put, List.setIfInBounds_toArray, List.set_cons_zero, List.set_cons_succ, List.getElem_toArray, List.getElem_cons_zero, List.getElem_cons_succ]
    refine wpAnyH_take (i := 1) (v := ?_) (by rfl) (by kernel_rfl) (by kernel_rfl) (by kernel_rfl) (fun _ _ _ h => h) (Or.inl ⟨by rfl, ?_⟩) hHeld ?_
    rotate_left
    · intro w' hSw
      (try dsimp only at hSw)
      simp only [List.getElem_toArray, List.getElem_cons_zero, List.getElem_cons_succ]
      go_simp
      all_goals (try with_reducible rfl)
    try simp only [Act.put, List.setIfInBounds_toArray, List.set_cons_zero, List.set_cons_succ, List.getElem_toArray, List.getElem_cons_zero, List.getElem_cons_succ]
    refine wpAnyH_take (i := 2) (v := ?_) (by rfl) (by kernel_rfl) (by kernel_rfl) (by kernel_rfl) (fun _ _ _ h => h) (Or.inl ⟨by rfl, ?_⟩) hHeld ?_
    rotate_left
    · intro w' hSw
      (try dsimp only at hSw)
      simp only [List.getElem_toArray, List.getElem_cons_zero, List.getElem_cons_succ]
      go_simp
      all_goals (try with_reducible rfl)
    try simp only [Act.put, List.setIfInBounds_toArray, List.set_cons_zero, List.set_cons_succ, List.getElem_toArray, List.getElem_cons_zero, List.getElem_cons_succ]
    refine wpAnyH_take (i := 3) (v := ?_) (by rfl) (by kernel_rfl) (by kernel_rfl) (by kernel_rfl) (fun _ _ _ h => h) (Or.inl ⟨by rfl, ?_⟩) hHeld ?_
    rotate_left
    · intro w' hSw
      (try dsimp only at hSw)
      simp only [List.getElem_toArray, List.getElem_cons_zero, List.getElem_cons_succ]
      go_simp
      all_goals (try with_reducible rfl)
    try simp only [Act.put, List.setIfInBounds_toArray, List.set_cons_zero, List.set_cons_succ, List.getElem_toArray, List.getElem_cons_zero, List.getElem_cons_succ]
    refine wpAnyH_take (i := 4) (v := ?_) (by rfl) (by kernel_rfl) (by kernel_rfl) (by kernel_rfl) (fun _ _ _ h => h) (Or.inl ⟨by rfl, ?_⟩) hHeld ?_
    rotate_left
    · intro w' hSw
      (try dsimp only at hSw)
      simp only [List.getElem_toArray, List.getElem_cons_zero, List.getElem_cons_succ]
      go_simp
      all_goals (try with_reducible rfl)
    try simp only [Act.put, List.setIfInBounds_toArray, List.set_cons_zero, List.set_cons_succ, List.getElem_toArray, List.getElem_cons_zero, List.getElem_cons_succ]
    refine wpAnyH_take (i := 5) (v := ?_) (by rfl) (by kernel_rfl) (by kernel_rfl) (by kernel_rfl) (fun _ _ _ h => h) (Or.inl ⟨by rfl, ?_⟩) hHeld ?_
    rotate_left
    · intro w' hSw
      (try dsimp only at hSw)
      simp only [List.getElem_toArray, List.getElem_cons_zero, List.getElem_cons_succ]
      go_simp
      all_goals (try with_reducible rfl)
    try simp only [Act.put, List.setIfInBounds_toArray, List.set_cons_zero, List.set_cons_succ, List.getElem_toArray, List.getElem_cons_zero, List.getElem_cons_succ]
    refine wpAnyH_take (i := 6) (v := ?_) (by rfl) (by kernel_rfl) (by kernel_rfl) (by kernel_rfl) (fun _ _ _ h => h) (Or.inl ⟨by rfl, ?_⟩) hHeld ?_
    rotate_left
    · intro w' hSw
      (try dsimp only at hSw)
      simp only [List.getElem_toArray, List.getElem_cons_zero, List.getElem_cons_succ]
      go_simp
      all_goals (try with_reducible rfl)
    try simp only [Act.put, List.setIfInBounds_toArray, List.set_cons_zero, List.set_cons_succ, List.getElem_toArray, List.getElem_cons_zero, List.getElem_cons_succ]
    refine wpAnyH_take (i := 7) (v := ?_) (by rfl) (by kernel_rfl) (by kernel_rfl) (by kernel_rfl) (fun _ _ _ h => h) (Or.inl ⟨by rfl, ?_⟩) hHeld ?_
    rotate_left
    · intro w' hSw
      (try dsimp only at hSw)
      simp only [List.getElem_toArray, List.getElem_cons_zero, List.getElem_cons_succ]
      go_simp
      all_goals (try with_reducible rfl)
    try simp only [Act.put, List.setIfInBounds_toArray, List.set_cons_zero, List.set_cons_succ, List.getElem_toArray, List.getElem_cons_zero, List.getElem_cons_succ]
    refine wpAnyH_take (i := 8) (v := ?_) (by rfl) (by kernel_rfl) (by kernel_rfl) (by kernel_rfl) (fun _ _ _ h => h) (Or.inl ⟨by rfl, ?_⟩) hHeld ?_
    rotate_left
    · intro w' hSw
      (try dsimp only at hSw)
      simp only [List.getElem_toArray, List.getElem_cons_zero, List.getElem_cons_succ]
      go_simp
      all_goals (try with_reducible rfl)
    try simp only [Act.put, List.setIfInBounds_toArray, List.set_cons_zero, List.set_cons_succ, List.getElem_toArray, List.getElem_cons_zero, List.getElem_cons_succ]
    refine wpAnyH_take (i := 9) (v := ?_) (by rfl) (by kernel_rfl) (by kernel_rfl) (by kernel_rfl) (fun _ _ _ h => h) (Or.inl ⟨by rfl, ?_⟩) hHeld ?_
    rotate_left
    · intro w' hSw
      (try dsimp only at hSw)
      simp only [List.getElem_toArray, List.getElem_cons_zero, List.getElem_cons_succ]
      go_simp
      all_goals (try with_reducible rfl)
    try simp only [Act.put, List.setIfInBounds_toArray, List.set_cons_zero, List.set_cons_succ, List.getElem_toArray, List.getElem_cons_zero, List.getElem_cons_succ]
    refine wpAnyH_take (i := 10) (v := ?_) (by rfl) (by kernel_rfl) (by kernel_rfl) (by kernel_rfl) (fun _ _ _ h => h) (Or.inl ⟨by rfl, ?_⟩) hHeld ?_
    rotate_left
    · intro w' hSw
      (try dsimp only at hSw)
      simp only [List.getElem_toArray, List.getElem_cons_zero, List.getElem_cons_succ]
      go_simp
      all_goals (try with_reducible rfl)
    try simp only [Act.put, List.setIfInBounds_toArray, List.set_cons_zero, List.set_cons_succ, List.getElem_toArray, List.getElem_cons_zero, List.getElem_cons_succ]
    refine wpAnyH_take (i := 11) (v := ?_) (by rfl) (by kernel_rfl) (by kernel_rfl) (by kernel_rfl) (fun _ _ _ h => h) (Or.inl ⟨by rfl, ?_⟩) hHeld ?_
    rotate_left
    · intro w' hSw
      (try dsimp only at hSw)
      simp only [List.getElem_toArray, List.getElem_cons_zero, List.getElem_cons_succ]
      go_simp
      all_goals (try with_reducible rfl)
    try simp only [Act.put, List.setIfInBounds_toArray, List.set_cons_zero, List.set_cons_succ, List.getElem_toArray, List.getElem_cons_zero, List.getElem_cons_succ]
    refine wpAnyH_take (i := 12) (v := ?_) (by rfl) (by kernel_rfl) (by kernel_rfl) (by kernel_rfl) (fun _ _ _ h => h) (Or.inl ⟨by rfl, ?_⟩) hHeld ?_
    rotate_left
    · intro w' hSw
      (try dsimp only at hSw)
      simp only [List.getElem_toArray, List.getElem_cons_zero, List.getElem_cons_succ]
      go_simp
      all_goals (try with_reducible rfl)
    try simp only [Act.put, List.setIfInBounds_toArray, List.set_cons_zero, List.set_cons_succ, List.getElem_toArray, List.getElem_cons_zero, List.getElem_cons_succ]
    refine wpAnyH_take (i := 13) (v := ?_) (by rfl) (by kernel_rfl) (by kernel_rfl) (by kernel_rfl) (fun _ _ _ h => h) (Or.inl ⟨by rfl, ?_⟩) hHeld ?_
    rotate_left
    · intro w' hSw
      (try dsimp only at hSw)
      simp only [List.getElem_toArray, List.getElem_cons_zero, List.getElem_cons_succ]
      go_simp
      all_goals (try with_reducible rfl)
    try simp only [Act.put, List.setIfInBounds_toArray, List.set_cons_zero, List.set_cons_succ, List.getElem_toArray, List.getElem_cons_zero, List.getElem_cons_succ]
    refine wpAnyH_take (i := 14) (v := ?_) (by rfl) (by kernel_rfl) (by kernel_rfl) (by kernel_rfl) (fun _ _ _ h => h) (Or.inl ⟨by rfl, ?_⟩) hHeld ?_
    rotate_left
    · intro w' hSw
      (try dsimp only at hSw)
      simp only [List.getElem_toArray, List.getElem_cons_zero, List.getElem_cons_succ]
      go_simp
      all_goals (try with_reducible rfl)
    try simp only [Act.put, List.setIfInBounds_toArray, List.set_cons_zero, List.set_cons_succ, List.getElem_toArray, List.getElem_cons_zero, List.getElem_cons_succ]
    refine wpAnyH_take (i := 15) (v := _) (by rfl) (by kernel_rfl) (by kernel_rfl) (by kernel_rfl) (fun _ _ _ h => h) (yieldsIf_load_mid (by rfl) _ _ (by rfl) _ _ rfl (fgc T.frag) _ (fun _ h => h.2.2.2.1) Try.underlying27 rfl (sizeFr4 _)) hHeld ?_
    try simp only [Act.put, List.setIfInBounds_toArray, List.set_cons_zero, List.set_cons_succ, List.getElem_toArray, List.getElem_cons_zero, List.getElem_cons_succ]
    refine wpAnyH_take (i := 16) (v := _) (by rfl) (by kernel_rfl) (by kernel_rfl) (by kernel_rfl) (fun _ _ _ h => h) (yieldsIf_build (by rfl) _ #[] (by rfl) #[] (by simp) made_fl) hHeld ?_
    try simp only [Act.put, List.setIfInBounds_toArray, List.set_cons_zero, List.set_cons_succ, List.getElem_toArray, List.getElem_cons_zero, List.getElem_cons_succ]
    refine wpAnyH_take (i := 17) (v := ?_) (by rfl) (by kernel_rfl) (by kernel_rfl) (by kernel_rfl) (fun _ _ _ h => h) (Or.inl ⟨by rfl, ?_⟩) hHeld ?_
    rotate_left
    · intro w' hSw
      (try dsimp only at hSw)
      simp only [List.getElem_toArray, List.getElem_cons_zero, List.getElem_cons_succ]
      go_simp
      all_goals (try with_reducible rfl)
    try simp only [Act.put, List.setIfInBounds_toArray, List.set_cons_zero, List.set_cons_succ, List.getElem_toArray, List.getElem_cons_zero, List.getElem_cons_succ]
    refine wpAnyH_take (i := 18) (v := ?_) (by rfl) (by kernel_rfl) (by kernel_rfl) (by kernel_rfl) (fun _ _ _ h => h) (Or.inl ⟨by rfl, ?_⟩) hHeld ?_
    rotate_left
    · intro w' hSw
      (try dsimp only at hSw)
      simp only [List.getElem_toArray, List.getElem_cons_zero, List.getElem_cons_succ]
      go_simp
      all_goals (try with_reducible rfl)
    try simp only [Act.put, List.setIfInBounds_toArray, List.set_cons_zero, List.set_cons_succ, List.getElem_toArray, List.getElem_cons_zero, List.getElem_cons_succ]
    refine wpAnyH_take (i := 19) (v := ?_) (by rfl) (by kernel_rfl) (by kernel_rfl) (by kernel_rfl) (fun _ _ _ h => h) (Or.inl ⟨by rfl, ?_⟩) hHeld ?_
    rotate_left
    · intro w' hSw
      (try dsimp only at hSw)
      simp only [List.getElem_toArray, List.getElem_cons_zero, List.getElem_cons_succ]
      go_simp
      all_goals (try with_reducible rfl)
    try simp only [Act.put, List.setIfInBounds_toArray, List.set_cons_zero, List.set_cons_succ, List.getElem_toArray, List.getElem_cons_zero, List.getElem_cons_succ]
    refine wpAnyH_ready (rs := [20]) (by kernel_rfl) (by simp) ?_
    refine AllReadyH.cons (by rfl) (fun K hK => ?_) AllReadyH.nil
    simp only [List.getElem_toArray, List.getElem_cons_zero, List.getElem_cons_succ]
    refine wp_store_of (.tmp 11) (.tmp 40) rfl rfl rfl T1.out ?_
    (try dsimp only)
    refine hK.out _ _ S1.out (fun hHeld => ?_)
    clear hK K
    try simp only [Act.put, List.setIfInBounds_toArray, List.set_cons_zero, List.set_cons_succ, List.getElem_toArray, List.getElem_cons_zero, List.getElem_cons_succ]
    refine wpAnyH_ready (rs := [21]) (by kernel_rfl) (by simp) ?_
    refine AllReadyH.cons (by rfl) (fun K hK => ?_) AllReadyH.nil
    simp only [List.getElem_toArray, List.getElem_cons_zero, List.getElem_cons_succ]
    refine wp_store_of (.tmp 12) (.tmp 41) rfl rfl rfl T2.out ?_
    (try dsimp only)
    refine hK.out _ _ S2.out (fun hHeld => ?_)
    clear hK K
    try simp only [Act.put, List.setIfInBounds_toArray, List.set_cons_zero, List.set_cons_succ, List.getElem_toArray, List.getElem_cons_zero, List.getElem_cons_succ]
    refine wpAnyH_take (i := 22) (v := ?_) (by rfl) (by kernel_rfl) (by kernel_rfl) (by kernel_rfl) (fun _ _ _ h => h) (Or.inl ⟨by rfl, ?_⟩) hHeld ?_
    rotate_left
    · intro w' hSw
      (try dsimp only at hSw)
      simp only [List.getElem_toArray, List.getElem_cons_zero, List.getElem_cons_succ]
      go_simp
      all_goals (try with_reducible rfl)
    try simp only [Act.put, List.setIfInBounds_toArray, List.set_cons_zero, List.set_cons_succ, List.getElem_toArray, List.getElem_cons_zero, List.getElem_cons_succ]
    refine wpAnyH_done (by kernel_rfl) ?_ _
    refine NoPanic.normal ?_
    clear hHeld
    go_wp2_with fail
    refine bodyPost_ret (ret_six rfl rfl rfl rfl rfl rfl rfl (Y2.out.range mem4 (part_all _)) (Y2.out.range mem3 (part_all _)) Try.underlying27 rfl (sizeFr4 _) Try.underlying45 rfl (sizeFl _ _)) rfl ?_
    rcases VR.out with ⟨r1, r2⟩ | ⟨o, r, r1, r2, r3⟩
    · subst r1
      exact ⟨none, 0, by rw [t0]; unfold fltV; rw [t1, t2]; rfl, .inl ⟨rfl, rfl, r2⟩, Y2.out.lay.below⟩
    · subst r1
      exact ⟨some ⟨b, o, none⟩, r, by rw [t0]; unfold fltV; rw [t1, t2]; rfl, .inr ⟨b, o, zs, rfl, hbw, Y2.out.at mem2, r2, r3⟩, Y2.out.lay.below⟩
  · obtain ⟨d1, d2, d3⟩ := VF.out t0
    rw [t0]
    have YD := veil VY.out.drew
    have T1 := veil (store_all (P := Try.prog) (ty := 27) (vs := fgc {}) (YD.out.at mem4) (by rw [hzf.out]; rfl) (sizeFr4 _) (one_fg _))
    have Y1 := veil (YD.out.put 4 rfl (fgc {}))
    simp only [List.set_cons_zero, List.set_cons_succ] at Y1
    have T2 := veil (store_all (P := Try.prog) (ty := 45) (vs := flc T.code T.place) (Y1.out.at mem3) (by rw [hzx.out]; rfl) (sizeFl _ _) (one_fl _ _))
    have Y2 := veil (Y1.out.put 3 rfl (flc T.code T.place))
    simp only [List.set_cons_zero, List.set_cons_succ] at Y2
    have S0 := sees_of YD.out mem0
    have S1 := sees_of Y1.out mem0
    have S2 := sees_of Y2.out mem0
    unfold Sees at S0 S1 S2
    rw [d1, d2, d3] at S0 S1 S2
    obtain ⟨R, hR⟩ : ∃ R, s.rest = R := ⟨_, rfl⟩
    rw [hR] at S0 S1 S2
    generalize s.next = sn at *
    generalize s.frag = sf at *
    replace S0 := veil S0
    replace S1 := veil S1
    replace S2 := veil S2
    clear d1 d2 d3 VD VF VY hR hzf hzx
    go_wp2_with fail
    refine wp_region_noPanic ?_
    refine wp_region_held_drew (S := (fun w' => w'.cell? ⟨g, 2, none⟩ = some (.int .u8 sn) ∧ w'.cell? ⟨g, 12, none⟩ = some R ∧ w'.cell? ⟨g, 7, none⟩ = some (.bool T.alert) ∧ w'.rangeAt g 8 (fgc sf) ∧ w'.rangeAt g 13 (flc T.code T.place))) (by kernel_rfl) S0.out (fun hHeld => ?_)
    refine wpAnyH_take (i := 0) (v := ?_) (by rfl) (by kernel_rfl) (by kernel_rfl) (by kernel_rfl) (fun _ _ _ h => h) (Or.inl ⟨by rfl, ?_⟩) hHeld ?_
    rotate_left
    · intro w' hSw
      (try dsimp only at hSw)
      simp only [List.getElem_toArray, List.getElem_cons_zero, List.getElem_cons_succ]
      go_simp
      all_goals (try with_reducible rfl)
    try simp only [Act.put, List.setIfInBounds_toArray, List.set_cons_zero, List.set_cons_succ, List.getElem_toArray, List.getElem_cons_zero, List.getElem_cons_succ]
    refine wpAnyH_take (i := 1) (v := ?_) (by rfl) (by kernel_rfl) (by kernel_rfl) (by kernel_rfl) (fun _ _ _ h => h) (Or.inl ⟨by rfl, ?_⟩) hHeld ?_
    rotate_left
    · intro w' hSw
      (try dsimp only at hSw)
      simp only [List.getElem_toArray, List.getElem_cons_zero, List.getElem_cons_succ]
      go_simp
      all_goals (try with_reducible rfl)
    try simp only [Act.put, List.setIfInBounds_toArray, List.set_cons_zero, List.set_cons_succ, List.getElem_toArray, List.getElem_cons_zero, List.getElem_cons_succ]
    refine wpAnyH_take (i := 2) (v := ?_) (by rfl) (by kernel_rfl) (by kernel_rfl) (by kernel_rfl) (fun _ _ _ h => h) (Or.inl ⟨by rfl, ?_⟩) hHeld ?_
    rotate_left
    · intro w' hSw
      (try dsimp only at hSw)
      simp only [List.getElem_toArray, List.getElem_cons_zero, List.getElem_cons_succ]
      go_simp
      all_goals (try with_reducible rfl)
    try simp only [Act.put, List.setIfInBounds_toArray, List.set_cons_zero, List.set_cons_succ, List.getElem_toArray, List.getElem_cons_zero, List.getElem_cons_succ]
    refine wpAnyH_take (i := 3) (v := ?_) (by rfl) (by kernel_rfl) (by kernel_rfl) (by kernel_rfl) (fun _ _ _ h => h) (Or.inl ⟨by rfl, ?_⟩) hHeld ?_
    rotate_left
    · intro w' hSw
      (try dsimp only at hSw)
      simp only [List.getElem_toArray, List.getElem_cons_zero, List.getElem_cons_succ]
      go_simp
      all_goals (try with_reducible rfl)
    try simp only [Act.put, List.setIfInBounds_toArray, List.set_cons_zero, List.set_cons_succ, List.getElem_toArray, List.getElem_cons_zero, List.getElem_cons_succ]
    refine wpAnyH_take (i := 4) (v := _) (by rfl) (by kernel_rfl) (by kernel_rfl) (by kernel_rfl) (fun _ _ _ h => h) (yieldsIf_build (by rfl) _ #[] (by rfl) #[] (by simp) made_fg) hHeld ?_
    try simp only [Act.put, List.setIfInBounds_toArray, List.set_cons_zero, List.set_cons_succ, List.getElem_toArray, List.getElem_cons_zero, List.getElem_cons_succ]
    refine wpAnyH_take (i := 5) (v := ?_) (by rfl) (by kernel_rfl) (by kernel_rfl) (by kernel_rfl) (fun _ _ _ h => h) (Or.inl ⟨by rfl, ?_⟩) hHeld ?_
    rotate_left
    · intro w' hSw
      (try dsimp only at hSw)
      simp only [List.getElem_toArray, List.getElem_cons_zero, List.getElem_cons_succ]
      go_simp
      all_goals (try with_reducible rfl)
    try simp only [Act.put, List.setIfInBounds_toArray, List.set_cons_zero, List.set_cons_succ, List.getElem_toArray, List.getElem_cons_zero, List.getElem_cons_succ]
    refine wpAnyH_take (i := 6) (v := ?_) (by rfl) (by kernel_rfl) (by kernel_rfl) (by kernel_rfl) (fun _ _ _ h => h) (Or.inl ⟨by rfl, ?_⟩) hHeld ?_
    rotate_left
    · intro w' hSw
      (try dsimp only at hSw)
      simp only [List.getElem_toArray, List.getElem_cons_zero, List.getElem_cons_succ]
      go_simp
      all_goals (try with_reducible rfl)
    try simp only [Act.put, List.setIfInBounds_toArray, List.set_cons_zero, List.set_cons_succ, List.getElem_toArray, List.getElem_cons_zero, List.getElem_cons_succ]
    refine wpAnyH_take (i := 7) (v := ?_) (by rfl) (by kernel_rfl) (by kernel_rfl) (by kernel_rfl) (fun _ _ _ h => h) (Or.inl ⟨by rfl, ?_⟩) hHeld ?_
    rotate_left
    · intro w' hSw
      (try dsimp only at hSw)
      simp only [List.getElem_toArray, List.getElem_cons_zero, List.getElem_cons_succ]
      go_simp
      all_goals (try with_reducible rfl)
    try simp only [Act.put, List.setIfInBounds_toArray, List.set_cons_zero, List.set_cons_succ, List.getElem_toArray, List.getElem_cons_zero, List.getElem_cons_succ]
    refine wpAnyH_take (i := 8) (v := _) (by rfl) (by kernel_rfl) (by kernel_rfl) (by kernel_rfl) (fun _ _ _ h => h) (yieldsIf_load_mid (by rfl) _ _ (by rfl) _ _ rfl (flc T.code T.place) _ (fun _ h => h.2.2.2.2) Try.underlying45 rfl (sizeFl _ _)) hHeld ?_
    try simp only [Act.put, List.setIfInBounds_toArray, List.set_cons_zero, List.set_cons_succ, List.getElem_toArray, List.getElem_cons_zero, List.getElem_cons_succ]
    refine wpAnyH_take (i := 9) (v := ?_) (by rfl) (by kernel_rfl) (by kernel_rfl) (by kernel_rfl) (fun _ _ _ h => h) (Or.inl ⟨by rfl, ?_⟩) hHeld ?_
    rotate_left
    · intro w' hSw
      (try dsimp only at hSw)
      simp only [List.getElem_toArray, List.getElem_cons_zero, List.getElem_cons_succ]
      go_simp
      all_goals (try with_reducible rfl)
    try simp only [Act.put, List.setIfInBounds_toArray, List.set_cons_zero, List.set_cons_succ, List.getElem_toArray, List.getElem_cons_zero, List.getElem_cons_succ]
    refine wpAnyH_take (i := 10) (v := ?_) (by rfl) (by kernel_rfl) (by kernel_rfl) (by kernel_rfl) (fun _ _ _ h => h) (Or.inl ⟨by rfl, ?_⟩) hHeld ?_
    rotate_left
    · intro w' hSw
      (try dsimp only at hSw)
      simp only [List.getElem_toArray, List.getElem_cons_zero, List.getElem_cons_succ]
      go_simp
      all_goals (try with_reducible rfl)
    try simp only [Act.put, List.setIfInBounds_toArray, List.set_cons_zero, List.set_cons_succ, List.getElem_toArray, List.getElem_cons_zero, List.getElem_cons_succ]
    refine wpAnyH_take (i := 11) (v := ?_) (by rfl) (by kernel_rfl) (by kernel_rfl) (by kernel_rfl) (fun _ _ _ h => h) (Or.inl ⟨by rfl, ?_⟩) hHeld ?_
    rotate_left
    · intro w' hSw
      (try dsimp only at hSw)
      simp only [List.getElem_toArray, List.getElem_cons_zero, List.getElem_cons_succ]
      go_simp
      all_goals (try with_reducible rfl)
    try simp only [Act.put, List.setIfInBounds_toArray, List.set_cons_zero, List.set_cons_succ, List.getElem_toArray, List.getElem_cons_zero, List.getElem_cons_succ]
    refine wpAnyH_take (i := 12) (v := ?_) (by rfl) (by kernel_rfl) (by kernel_rfl) (by kernel_rfl) (fun _ _ _ h => h) (Or.inl ⟨by rfl, ?_⟩) hHeld ?_
    rotate_left
    · intro w' hSw
      (try dsimp only at hSw)
      simp only [List.getElem_toArray, List.getElem_cons_zero, List.getElem_cons_succ]
      go_simp
      all_goals (try with_reducible rfl)
    try simp only [Act.put, List.setIfInBounds_toArray, List.set_cons_zero, List.set_cons_succ, List.getElem_toArray, List.getElem_cons_zero, List.getElem_cons_succ]
    refine wpAnyH_ready (rs := [13]) (by kernel_rfl) (by simp) ?_
    refine AllReadyH.cons (by rfl) (fun K hK => ?_) AllReadyH.nil
    simp only [List.getElem_toArray, List.getElem_cons_zero, List.getElem_cons_succ]
    refine wp_store_of (.tmp 11) (.tmp 48) rfl rfl rfl T1.out ?_
    (try dsimp only)
    refine hK.out _ _ S1.out (fun hHeld => ?_)
    clear hK K
    try simp only [Act.put, List.setIfInBounds_toArray, List.set_cons_zero, List.set_cons_succ, List.getElem_toArray, List.getElem_cons_zero, List.getElem_cons_succ]
    refine wpAnyH_ready (rs := [14]) (by kernel_rfl) (by simp) ?_
    refine AllReadyH.cons (by rfl) (fun K hK => ?_) AllReadyH.nil
    simp only [List.getElem_toArray, List.getElem_cons_zero, List.getElem_cons_succ]
    refine wp_store_of (.tmp 12) (.tmp 52) rfl rfl rfl T2.out ?_
    (try dsimp only)
    refine hK.out _ _ S2.out (fun hHeld => ?_)
    clear hK K
    try simp only [Act.put, List.setIfInBounds_toArray, List.set_cons_zero, List.set_cons_succ, List.getElem_toArray, List.getElem_cons_zero, List.getElem_cons_succ]
    refine wpAnyH_take (i := 15) (v := ?_) (by rfl) (by kernel_rfl) (by kernel_rfl) (by kernel_rfl) (fun _ _ _ h => h) (Or.inl ⟨by rfl, ?_⟩) hHeld ?_
    rotate_left
    · intro w' hSw
      (try dsimp only at hSw)
      simp only [List.getElem_toArray, List.getElem_cons_zero, List.getElem_cons_succ]
      go_simp
      all_goals (try with_reducible rfl)
    try simp only [Act.put, List.setIfInBounds_toArray, List.set_cons_zero, List.set_cons_succ, List.getElem_toArray, List.getElem_cons_zero, List.getElem_cons_succ]
    refine wpAnyH_done (by kernel_rfl) ?_ _
    refine NoPanic.normal ?_
    clear hHeld
    go_wp2_with fail
    refine bodyPost_ret (ret_six rfl rfl rfl rfl rfl rfl rfl (Y2.out.range mem4 (part_all _)) (Y2.out.range mem3 (part_all _)) Try.underlying27 rfl (sizeFr4 _) Try.underlying45 rfl (sizeFl _ _)) rfl ?_
    exact ⟨none, 0, by rw [t0, t1, t3]; rfl, .inl ⟨rfl, rfl, t2⟩, Y2.out.lay.below⟩
  · have T1 := veil (store_all (P := Try.prog) (ty := 27) (vs := fgc {}) (VY.out.at mem4) (by rw [hzf.out]; rfl) (sizeFr4 _) (one_fg _))
    have Y1 := veil (VY.out.put 4 rfl (fgc {}))
    simp only [List.set_cons_zero, List.set_cons_succ] at Y1
    have T2 := veil (store_all (P := Try.prog) (ty := 45) (vs := flc 0 0) (Y1.out.at mem3) (by rw [hzx.out]; rfl) (sizeFl _ _) (one_fl _ _))
    have Y2 := veil (Y1.out.put 3 rfl (flc 0 0))
    simp only [List.set_cons_zero, List.set_cons_succ] at Y2
    have B1 := veil made_fg
    have B2 := veil made_fl
    have f0 : (T.e == 0) = false := by simpa using t0
    have f7 : (T.e == 7) = false := by simpa using t1
    obtain ⟨ne, hN⟩ : ∃ ne, T.e = ne := ⟨_, rfl⟩
    have t2' := veil t2
    rw [hN] at f0 f7 ⊢
    obtain ⟨zf, hzf0⟩ : ∃ zf, fgc {} = zf := ⟨_, rfl⟩
    obtain ⟨zx, hzx0⟩ : ∃ zx, flc 0 0 = zx := ⟨_, rfl⟩
    have s1 := sizeFr4 {}
    have s2 := sizeFl 0 0
    rw [hzf0] at T1 Y1 T2 Y2 B1 s1
    rw [hzx0] at T2 Y2 B2 s2
    have VS1 := veil s1
    have VS2 := veil s2
    have VN1 := veil hN
    have VZ1 := veil hzf0
    have VZ2 := veil hzx0
    clear t2 s1 s2 hN hzf0 hzx0 VD VF VY hzf hzx t0 t1 VT
    go_wp2_with (first
      | (refine wpList_build_of rfl 27 #[] rfl #[] (by simp) (B1.out _) ?_)
      | (refine wpList_build_of rfl 45 #[] rfl #[] (by simp) (B2.out _) ?_)
      | (refine wpList_store_of rfl _ _ rfl rfl rfl T1.out ?_)
      | (refine wpList_store_of rfl _ _ rfl rfl rfl T2.out ?_))
    refine bodyPost_ret (ret_six rfl rfl rfl rfl rfl rfl rfl (Y2.out.range mem4 (part_all _)) (Y2.out.range mem3 (part_all _)) Try.underlying27 rfl VS1.out Try.underlying45 rfl VS2.out) rfl ?_
    have t2 := t2'.out
    rw [VN1.out] at t2
    refine ⟨none, 0, ?_, .inl ⟨rfl, rfl, by rw [t2]; rfl⟩, Y2.out.lay.below⟩
    rw [← VZ1.out, ← VZ2.out, t2]
    rfl

end Go.Proofs.Ytfkjfdmepeahnaa.Hd
