/-
  Arguments that are addresses, and numbers with ids, opened; what the row says of the table of known addresses, opened.
  Conditions: none.
-/
import Derived.Test.YthkiamkhignchaaDoorAdrF
import Derived.Test.YthkiamkhignchaaDoorOpenB
import Derived.LaidMore
import Derived.Stop.Joined
namespace Go.Proofs.YthkiamkhignchaaDoor.Ad
open Go.ChangeShapes Go.WideShapes Go.ChangeAt Go.RowKit

theorem cellsByte : Tryd.prog.cellsOf 5 = 1 := by kernel_rfl
theorem cellsAddr : Tryd.prog.cellsOf 23 = 16 := by kernel_rfl

section
variable {H : Type} {enc : TypeId × Value → H} {W : World} {base : Nat} {sp : Nat → Bool} {held : Bool}

theorem open_addr {v : Value} {d : DataW H} {p : List MemPlace} {r : Reach} {b0 : Nat} (hv : Value.okWide Tryd.prog W r b0 23 v) (h : DataW.Trod enc Tryd.prog W base sp held 23 v d p) :
    ∃ xs, v = av xs ∧ Ok xs := by
  obtain ⟨cs, rfl, hsz⟩ := okWide_array' Tryd.underlying23 hv
  obtain ⟨fuel, hf⟩ := h
  obtain ⟨xs, hx, hl, hw⟩ := ints_of_array Tryd.underlying23 Tryd.underlying5 cellsByte cellsAddr hf
  have hx' : cs.toList = bv xs := hx
  refine ⟨xs, ?_, hl, fun z hz => u8_of (hw z hz)⟩
  show Value.agg cs = .agg (bv xs).toArray
  rw [← hx']

/-- an array of whole numbers whose datum is known -/
theorem ints_datum {fuel : Nat} {t e : TypeId} {n : Nat} {k : IntKind} {cs : List Value} {x : DataW H × List MemPlace} {P : Program} (ht : P.underlying t = some (.array n e)) (he : P.underlying e = some (.int k)) (hce : P.cellsOf e = 1) (hct : P.cellsOf t = n)
    (h : DataW.trod enc P W base sp held fuel t cs = some x) {zs : List Int} (hd : x.1 = .agg (zs.map fun z => .lit (.int k z))) : cs = zs.map (Value.int k) := by
  obtain ⟨xs, m, _, rfl, hl, hx, hi⟩ := DataW.trod_array ht h
  rw [hct] at hl
  simp only [DataW.agg.injEq] at hd
  have hn : zs.length = n := by
    have := congrArg List.length hd
    simp at this
    omega
  apply List.ext_getElem?
  intro i
  by_cases hin : i < n
  · have h1 := hi i hin
    rw [hce, Nat.mul_one, List.getElem?_eq_getElem (by omega)] at h1
    obtain ⟨z, hz, hy, _⟩ := DataW.trod_int he h1
    have h2 := congrArg (fun l => l[0]?) hz
    have h3 := congrArg (fun l => l[i]?) hd
    simp [hin, hx, hn, hy] at h3
    simp [h3, hin, hn] at h2 ⊢
    exact h2
  · rw [List.getElem?_eq_none (by omega), List.getElem?_eq_none (by simp; omega)]

/-- an array of such arrays -/
theorem rows_datum {fuel : Nat} {t e u : TypeId} {n m : Nat} {k : IntKind} {cs : List Value} {x : DataW H × List MemPlace} {P : Program} (ht : P.underlying t = some (.array n e)) (he : P.underlying e = some (.array m u)) (hu : P.underlying u = some (.int k)) (hcu : P.cellsOf u = 1) (hce : P.cellsOf e = m)
    (h : DataW.trod enc P W base sp held fuel t cs = some x) {zss : List (List Int)} (hd : x.1 = .agg (zss.map fun zs => .agg (zs.map fun z => .lit (.int k z)))) {i j : Nat} (hi : i < n) (hj : j < m) : cs[i * m + j]? = ((zss.getD i []).map (Value.int k))[j]? := by
  obtain ⟨xs, m1, _, rfl, hl, hx, hat⟩ := DataW.trod_array ht h
  simp only [DataW.agg.injEq] at hd
  have hn : zss.length = n := by
    have := congrArg List.length hd
    simp at this
    omega
  have h1 := hat i hi
  rw [hce, List.getElem?_eq_getElem (by omega)] at h1
  have h3 := congrArg (fun l => l[i]?) hd
  simp [hi, hx, hn] at h3
  have h4 := ints_datum he hu hcu hce h1 h3
  have h5 := congrArg (fun l => l[j]?) h4
  have e : zss.getD i [] = zss[i] := by simp [List.getD, hi, hn]
  rw [e, ← h5]
  simp [hj]
end

/-- a world behind w0 in which the table, and these bytes in blocks of their own, lie -/
structure At (w0 w : World) (L : List (Nat × List Int)) : Prop where
  knw : Knw w
  rng : ∀ x ∈ L, w.rangeAt x.1 0 (bv x.2)
  below : Below w0.heap.size w0 w
theorem At.keep {w0 w w' : World} {L : List (Nat × List Int)} (h : At w0 w L) (q : Below w.heap.size w w') : At w0 w' L :=
  ⟨h.knw.keep q, fun x hx => rng_keep (h.rng x hx) q, h.below.trans (q.mono h.below.size)⟩
theorem At.drew {w0 w : World} {L : List (Nat × List Int)} (h : At w0 w L) : At w0 w.drew L := ⟨h.knw, h.rng, still_below h.below⟩
theorem At.new {w0 w : World} {L : List (Nat × List Int)} (h : At w0 w L) (zs : List Int) (t : TypeId) {g : Nat} (hg : g = w.heap.size) : At w0 (w.alloc (.cells (bv zs).toArray t)) ((g, zs) :: L) := by
  have k := h.keep (below_new w (.cells (bv zs).toArray t))
  refine ⟨k.knw, fun x hx => ?_, k.below⟩
  rcases List.mem_cons.1 hx with rfl | hx
  · exact rng_row (row_new hg)
  · exact k.rng x hx
theorem At.begin {w : World} (h : Knw w) : At w w [] := ⟨h, (fun _ hx => by cases hx), Below.refl _ _⟩
theorem At.load {w0 w : World} {L : List (Nat × List Int)} (h : At w0 w L) {g : Nat} {xs : List Int} (hm : (g, xs) ∈ L) (hx : xs.length = 16) : (Instr.loadAt 23 (.pointer (some ⟨g, 0, none⟩))).run Tryd.prog w = .ok (av xs) w :=
  load_rng (h.rng _ hm) hx
theorem mem0 {α : Type} {a : α} {l : List α} : a ∈ a :: l := List.mem_cons_self
theorem mem1 {α : Type} {a b : α} {l : List α} : a ∈ b :: a :: l := List.mem_cons_of_mem _ List.mem_cons_self
theorem mem2 {α : Type} {a b c : α} {l : List α} : a ∈ b :: c :: a :: l := List.mem_cons_of_mem _ mem1
theorem mem3 {α : Type} {a b c d : α} {l : List α} : a ∈ b :: c :: d :: a :: l := List.mem_cons_of_mem _ mem2
theorem mem4 {α : Type} {a b c d e : α} {l : List α} : a ∈ b :: c :: d :: e :: a :: l := List.mem_cons_of_mem _ mem3
theorem mem5 {α : Type} {a b c d e f : α} {l : List α} : a ∈ b :: c :: d :: e :: f :: a :: l := List.mem_cons_of_mem _ mem4

/-- what the row says of the table -/
abbrev laid1 : List (String × DataW Unit) := [("sojourner/addrs.known", Rows.laid_sojourner_addrs_known)]
theorem gKnown : Tryd.prog.globalNamed "sojourner/addrs.known" = some 0 := by kernel_rfl
theorem tKnown : (Tryd.prog.globals[0]?).map (·.type) = some 68 := by kernel_rfl
theorem knw_of_laid {W : World} (h : laidMetH Tryd.prog laid1 W) : Knw W := by
  rw [MakeChecks.laidMetH_plain _ _ _ (by kernel_rfl)] at h
  obtain ⟨ps, ⟨g0, t0, cs0, f0, p0, q0, hg0, ht0, hv0, hd0, _, _⟩, _, _⟩ := h
  obtain rfl := Option.some.inj (gKnown.symm.trans hg0)
  obtain rfl := Option.some.inj (tKnown.symm.trans ht0)
  intro j v hv
  have hj : j < 96 := by
    have := (List.getElem?_eq_some_iff.1 hv).1
    rw [bv_length] at this
    exact this
  rw [Nat.zero_add, World.var?_cell hg0 hv0 j]
  have h := rows_datum Tryd.underlying68 Tryd.underlying23 Tryd.underlying5 cellsByte cellsAddr hd0 (zss := [kn 0, kn 1, kn 2, kn 3, kn 4, kn 5]) rfl (i := j / 16) (j := j % 16) (by omega) (by omega)
  rw [show j / 16 * 16 + j % 16 = j by omega] at h
  rw [← Array.getElem?_toList, h, ← hv]
  have : ∀ j : Fin 96, ((([kn 0, kn 1, kn 2, kn 3, kn 4, kn 5].getD (j.1 / 16) []).map (Value.int .u8))[j.1 % 16]?) = (bv known)[j.1]? := by
    intro j
    have e : ∀ j : Fin 96, ([kn 0, kn 1, kn 2, kn 3, kn 4, kn 5].getD (j.1 / 16) [])[j.1 % 16]? = known[j.1]? := by decide +kernel
    rw [List.getElem?_map, e j]
    simp [bv]
  exact this ⟨j, hj⟩
/-- the door's own heap meets it -/
theorem door_met (os : Os) (args : Array Value) : laidMetH Tryd.prog laid1 ((World.doorLaid Tryd.prog 400 os).forCall (fun _ _ => 0) ⟨#[], args, []⟩).memory :=
  laidMetH_of_parts3 (fuel := 8) (laidMet_of_run' 8 (by kernel_rfl) (by kernel_rfl)) (by kernel_rfl) (by kernel_rfl)

end Go.Proofs.YthkiamkhignchaaDoor.Ad
