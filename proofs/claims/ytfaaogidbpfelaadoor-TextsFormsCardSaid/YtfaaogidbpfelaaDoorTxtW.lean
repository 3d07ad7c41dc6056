/-
  A law's row that lists the library's tables, with the world's shape kept; what the row says of the tables, opened; arguments that are addresses, bytes, strings, opened.
  Conditions: none.
-/
import Derived.Test.YtfaaogidbpfelaaDoorTxtL
import Derived.Test.YtfaaogidbpfelaaDoorLaw
import Derived.Test.YtfaaogidbpfelaaDoorOpenB
import Derived.LaidMore
import Derived.Stop.Joined
import Derived.Shelf.Vars
import Derived.Test.YtfaaogidbpfelaaDoorRows
namespace Go.Proofs.YtfaaogidbpfelaaDoor.Tx
open Go.ChangeShapes Go.WideShapes Go.ChangeAt Go.RowKit Ad

theorem cellsByte : Tryd.prog.cellsOf 5 = 1 := by kernel_rfl
theorem cellsAddr : Tryd.prog.cellsOf 23 = 16 := by kernel_rfl
section
variable {H : Type} {enc : TypeId × Value → H} {W : World} {base : Nat} {sp : Nat → Bool} {held : Bool}
set_option maxRecDepth 100000 in
theorem open_addr {v : Value} {d : DataW H} {p : List MemPlace} {r : Reach} {b0 : Nat} (hv : Value.okWide Tryd.prog W r b0 23 v) (h : DataW.Trod enc Tryd.prog W base sp held 23 v d p) :
    ∃ xs, v = av xs ∧ Ok xs := by
  obtain ⟨cs, rfl, hsz⟩ := okWide_array' Tryd.underlying23 hv
  obtain ⟨fuel, hf⟩ := h
  obtain ⟨xs, hx, hl, hw⟩ := ints_of_array Tryd.underlying23 Tryd.underlying5 cellsByte cellsAddr hf
  have hx' : cs.toList = bv xs := hx
  refine ⟨xs, ?_, hl, fun z hz => u8_of (hw z hz)⟩
  show Value.agg cs = .agg (bv xs).toArray
  rw [← hx']
set_option maxRecDepth 100000 in
theorem open_byte {v : Value} {d : DataW H} {p : List MemPlace} {r : Reach} {b0 : Nat} (hv : Value.okWide Tryd.prog W r b0 5 v) (h : DataW.Trod enc Tryd.prog W base sp held 5 v d p) :
    ∃ c : Nat, v = .int .u8 c ∧ c < 256 := by
  obtain ⟨a, rfl, rfl, rfl, wf⟩ := open_int Tryd.underlying5 hv h
  have := u8_of wf
  exact ⟨a.toNat, by rw [Int.toNat_of_nonneg this.1], by omega⟩
/-- an array of whole numbers whose datum is known -/
theorem ints_datum {fuel : Nat} {t e : TypeId} {n : Nat} {k : IntKind} {cs : List Value} {x : DataW H × List MemPlace} {P : Program} (ht : P.underlying t = some (.array n e)) (he : P.underlying e = some (.int k)) (hce : P.cellsOf e = 1) (hct : P.cellsOf t = n)
    (h : DataW.trod enc P W base sp held fuel t cs = some x) {zs : List Int} (hd : x.1 = .agg (zs.map fun z => .lit (.int k z))) : cs = zs.map (Value.int k) := by
  obtain ⟨xs, m, _, rfl, hl, hx, hi⟩ := DataW.trod_array ht h
  rw [hct] at hl
  simp only [DataW.agg.injEq] at hd
  have hn : zs.length = n := by
    have := congrArg List.length hd
    simp at this
    omega
  apply List.ext_getElem?
  intro i
  by_cases hin : i < n
  · have h1 := hi i hin
    rw [hce, Nat.mul_one, List.getElem?_eq_getElem (by omega)] at h1
    obtain ⟨z, hz, hy, _⟩ := DataW.trod_int he h1
    have h2 := congrArg (fun l => l[0]?) hz
    have h3 := congrArg (fun l => l[i]?) hd
    simp [hin, hx, hn, hy] at h3
    simp [h3, hin, hn] at h2 ⊢
    exact h2
  · rw [List.getElem?_eq_none (by omega), List.getElem?_eq_none (by simp; omega)]
end

/-- what the row says of the tables -/
abbrev laid3 : List (String × DataW Unit) := [("math/bits.deBruijn32tab", Rows.laid_math_bits_deBruijn32tab), ("math/bits.deBruijn64tab", Rows.laid_math_bits_deBruijn64tab), ("internal/strconv.uint64pow10", Rows.laid_internal_strconv_uint64pow10)]
theorem gDb : Tryd.prog.globalNamed "math/bits.deBruijn64tab" = some 3 := by kernel_rfl
theorem tDb : (Tryd.prog.globals[3]?).map (·.type) = some 107 := by kernel_rfl
theorem cells64 : Tryd.prog.cellsOf 107 = 64 := by kernel_rfl
def tab64 : List Int := [0, 1, 56, 2, 57, 49, 28, 3, 61, 58, 42, 50, 38, 29, 17, 4, 62, 47, 59, 36, 45, 43, 51, 22, 53, 39, 33, 30, 24, 18, 12, 5, 63, 55, 48, 27, 60, 41, 37, 16, 46, 35, 44, 21, 52, 32, 23, 11, 54, 26, 40, 15, 34, 20, 31, 10, 25, 14, 19, 9, 13, 8, 7, 6]
theorem db_of_laid {W : World} (h : laidMetH Tryd.prog laid3 W) : Db W := by
  rw [MakeChecks.laidMetH_plain _ _ _ (by kernel_rfl)] at h
  obtain ⟨ps, ⟨_, _, _, _, _, _, _, _, _, _, ⟨g0, t0, cs0, f0, p0, q0, hg0, ht0, hv0, hd0, _, _⟩, _⟩, _, _⟩ := h
  obtain rfl := Option.some.inj (gDb.symm.trans hg0)
  obtain rfl := Option.some.inj (tDb.symm.trans ht0)
  have h := ints_datum Tryd.underlying107 Tryd.underlying5 cellsByte cells64 hd0 (zs := tab64) rfl
  unfold Db
  rw [World.var?_cell hg0 hv0 15, ← Array.getElem?_toList, h]
  rfl
theorem mx_of_shape {W : World} (h : W.ShapedOpen Tryd.prog) : Mx W :=
  cell_of_shapedOpen_int (t := 3) (zero := #[.int .i64 0]) h (of_decide_eq_true (by kernel_rfl)) (by kernel_rfl) rfl (by kernel_rfl) (by kernel_rfl) Tryd.underlying3
theorem door_met (os : Os) (args : Array Value) : laidMetH Tryd.prog laid3 ((World.doorLaid Tryd.prog 2000 os).forCall (fun _ _ => 0) ⟨#[], args, []⟩).memory :=
  laidMetH_of_parts3 (fuel := 8) (laidMet_of_run' 8 (by kernel_rfl) (by kernel_rfl)) (by kernel_rfl) (by kernel_rfl)

/-- the wrap: what the row lists, and the world's shape -/
theorem returns_shaped {H : Type} {enc : TypeId × Value → H} {a : Assume} {C : Checked} {os : Os} {f : FuncId} {fn : Func} {s : ChangeSpec} {conds : List PathCond} {apart fresh handsOn again : Bool} {X : World → Array Value → Prop}
    (hX : ∀ (w w' : World) (args : Array Value), w.heap = w'.heap → X w args → X w' args)
    (own : ownKnob C.prog.godebug = none) (started : os.Started) (noInit : C.prog.inits.idxOf? f = none) (hfn : C.prog.funcs[f]? = some fn)
    (witness : ∃ (w : World) (tape : Tape) (i : Input), w.os = os ∧ (w.forCall tape i).Shaped C.prog ∧ i.vars = [] ∧ Input.okWide C.prog (w.forCall tape i) .any w.heap.size f i ∧
      ((s.pre enc C.prog fn conds apart (w.forCall tape i).memory i.args ∧ X (w.forCall tape i).memory i.args) ∧ sizedMet enc C.prog fn (OpenSpec.ofChange s) apart (w.forCall tape i).memory i.args) ∧ a.holds C.prog (lone (Frame.enter C.prog f i.args .normal) [] (w.forCall tape i)))
    (contract : ∀ (W : World) (base : Nat) (args : Array Value) (ds gs : List (DataW H)) (before : List MemPlace),
      (∀ (j : Nat) t v, fn.params[j]? = some t → args[j]? = some v → Value.okWide C.prog W .any base t v) →
      DataW.Whole enc C.prog fn.params.toList s.vars apart W args.toList ds gs before →
      X W args → W.ShapedOpen C.prog →
      Calls C.prog f args W fun e W' => ∃ v, e = .returned v ∧ s.post enc C.prog fn apart fresh handsOn again W args v W') :
    ReturnsInHanded a C os f .any (fun w args => (s.pre enc C.prog fn conds apart w args ∧ X w args) ∧ sizedMet enc C.prog fn (OpenSpec.ofChange s) apart w args) (s.post enc C.prog fn apart fresh handsOn again) := by
  refine returnsInHanded_of_calls own started noInit witness ?_
  intro w tape i _ hsh _ hok hpre _
  obtain ⟨_, _, _, fn', hfn', _, _, _, _, hval⟩ := hok
  have e : fn' = fn := Option.some.inj (hfn'.symm.trans hfn)
  subst e
  obtain ⟨⟨⟨ds, gs, before, hw, _⟩, hx⟩, _⟩ := hpre
  have hw' := DataW.Whole.of_heap (w' := w.forCall tape i) (by rfl) hw
  refine (contract (w.forCall tape i) w.heap.size i.args ds gs before hval hw' (hX _ _ _ (by rfl) hx) hsh).mono fun e W' ⟨v, he, hp⟩ => ?_
  subst he
  exact ChangeSpec.post_blind hp

/-- a world behind w0 in which the tables, and these bytes in blocks of their own, lie -/
structure Bt (w0 w : World) (L : List (Nat × List Int)) : Prop where
  tw : Tw w
  rng : ∀ x ∈ L, w.rangeAt x.1 0 (bv x.2)
  below : Below w0.heap.size w0 w
theorem Bt.keep {w0 w w' : World} {L : List (Nat × List Int)} (h : Bt w0 w L) (q : Below w.heap.size w w') : Bt w0 w' L :=
  ⟨h.tw.keep q, fun x hx => rng_keep (h.rng x hx) q, h.below.trans (q.mono h.below.size)⟩
theorem Bt.drew {w0 w : World} {L : List (Nat × List Int)} (h : Bt w0 w L) : Bt w0 w.drew L := ⟨⟨h.tw.mx, h.tw.db⟩, h.rng, still_below h.below⟩
theorem Bt.new {w0 w : World} {L : List (Nat × List Int)} (h : Bt w0 w L) (zs : List Int) (t : TypeId) {g : Nat} (hg : g = w.heap.size) : Bt w0 (w.alloc (.cells (bv zs).toArray t)) ((g, zs) :: L) := by
  have k := h.keep (below_new w (.cells (bv zs).toArray t))
  refine ⟨k.tw, fun x hx => ?_, k.below⟩
  rcases List.mem_cons.1 hx with rfl | hx
  · exact rng_row (row_new hg)
  · exact k.rng x hx
theorem Bt.begin {w : World} (h : Tw w) : Bt w w [] := ⟨h, (fun _ hx => by cases hx), Below.refl _ _⟩
theorem Bt.load {w0 w : World} {L : List (Nat × List Int)} (h : Bt w0 w L) {g : Nat} {xs : List Int} (hm : (g, xs) ∈ L) (hx : xs.length = 16) : (Instr.loadAt 23 (.pointer (some ⟨g, 0, none⟩))).run Tryd.prog w = .ok (av xs) w :=
  load_rng (h.rng _ hm) hx
theorem mem0 {α : Type} {a : α} {l : List α} : a ∈ a :: l := List.mem_cons_self
theorem mem1 {α : Type} {a b : α} {l : List α} : a ∈ b :: a :: l := List.mem_cons_of_mem _ List.mem_cons_self
theorem mem2 {α : Type} {a b c : α} {l : List α} : a ∈ b :: c :: a :: l := List.mem_cons_of_mem _ mem1

/-! one byte of a string; two strings, compared; a part of a string -/
theorem getD_at {s : Str} {i : Nat} (hi : i < s.length) (hi' : i < (bs s).size) : (bs s)[i]'hi' = s.getD i 0 := by
  rw [bs_at s i hi']
  simp only [List.getD, List.getElem?_eq_getElem hi, Option.getD_some]
theorem index_str (s : Str) {i : Nat} (hi : i < s.length) (u : World) : (Instr.index 9 (.string (bs s)) (.int .i64 i)).run Tryd.prog u = .ok (.int .u8 ((s.getD i 0).toNat : Int)) u := by
  have hi' : i < (bs s).size := by rw [bs_size]; exact hi
  rw [← getD_at hi hi']
  simp [Instr.index, run_underlying Tryd.underlying9, asIntOf, hi', go_sem]
theorem eq_lists (s t : Str) {z : Bool} (hz : decide (s = t) = z) : ((bs s).toList == (bs t).toList) = z := by
  rw [bs_list, bs_list, ← hz]
  by_cases h : s = t
  · subst h
    simp
  · simp [h]
/-- what the row gives the walk -/
theorem tw_of {W : World} (h : laidMetH Tryd.prog laid3 W) (hs : W.ShapedOpen Tryd.prog) : Tw W := ⟨mx_of_shape hs, db_of_laid h⟩
end Go.Proofs.YtfaaogidbpfelaaDoor.Tx
