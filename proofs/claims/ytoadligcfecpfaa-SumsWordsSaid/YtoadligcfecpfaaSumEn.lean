/-
  An argument that holds two addresses and a protocol, opened; its fields, read; arrays of integers, opened.
  Conditions: none.
-/
import Derived.Test.YtoadligcfecpfaaSumRo
import Derived.Test.YtoadligcfecpfaaOpen
import Derived.Deep.Strs
import Derived.Deep.MidRow
import Derived.ArgAppend
namespace Go.Proofs.Ytoadligcfecpfaa
open Go.ChangeShapes Go.WideShapes Go.ChangeAt Go.RowKit

section
variable {H : Type} {enc : TypeId × Value → H} {P : Program} {W : World} {base : Nat} {sp : Nat → Bool} {held : Bool}

/-- an array of integers, opened -/
theorem ints_of_array {fuel : Nat} {t e : TypeId} {n : Nat} {k : IntKind} {cs : List Value} {x : DataW H × List MemPlace} (ht : P.underlying t = some (.array n e)) (he : P.underlying e = some (.int k)) (hce : P.cellsOf e = 1) (hct : P.cellsOf t = n)
    (h : DataW.trod enc P W base sp held fuel t cs = some x) : ∃ zs : List Int, cs = zs.map (Value.int k) ∧ zs.length = n ∧ ∀ z ∈ zs, (Lit.int k z).wf = true := by
  obtain ⟨xs, m, _, _, hl, hx, hi⟩ := DataW.trod_array ht h
  rw [hct] at hl
  have hat : ∀ i, i < n → ∃ z, cs[i]? = some (.int k z) ∧ (Lit.int k z).wf = true := by
    intro i hin
    have h1 := hi i hin
    rw [hce, Nat.mul_one, List.getElem?_eq_getElem (by omega)] at h1
    obtain ⟨z, hz, _, hw⟩ := DataW.trod_int he h1
    refine ⟨z, ?_, hw⟩
    have h2 := congrArg (fun l => l[0]?) hz
    simpa using h2
  refine ⟨cs.map intOf, ?_, by simp [hl], ?_⟩
  · apply List.ext_getElem?
    intro i
    by_cases hin : i < n
    · obtain ⟨z, hz, _⟩ := hat i hin
      simp [hz, intOf]
    · rw [List.getElem?_eq_none (by omega), List.getElem?_eq_none (by simp; omega)]
  · intro z hz
    obtain ⟨v, hv, rfl⟩ := List.mem_map.1 hz
    obtain ⟨i, hi', hv'⟩ := List.getElem_of_mem hv
    obtain ⟨z, hz', hw⟩ := hat i (by omega)
    rw [List.getElem?_eq_getElem hi', hv'] at hz'
    injection hz' with hz'
    subst hz'
    exact hw

theorem okWide_array' {r : Reach} {b0 : Nat} {t e : TypeId} {n : Nat} {v : Value} (ht : P.underlying t = some (.array n e)) (h : Value.okWide P W r b0 t v) : ∃ cs, v = .agg cs ∧ cs.size = P.cellsOf t := by
  simp only [Value.okWide, ht] at h
  obtain ⟨cs, h1, h2, _⟩ := h
  exact ⟨cs, h1, h2⟩
end

theorem cellsAddr : Try.prog.cellsOf 31 = 16 := by kernel_rfl
theorem cellsEnds : Try.prog.cellsOf 33 = 33 := by kernel_rfl

/-- two addresses and a protocol, as cells -/
def endsV (s d : List Int) (nx : Int) : List Value := bv s ++ (bv d ++ [.int .u8 nx])

/-- an argument that holds two addresses and a protocol -/
theorem open_ends {H : Type} {enc : TypeId × Value → H} {W : World} {base : Nat} {sp : Nat → Bool} {held : Bool} {v : Value} {d : DataW H} {p : List MemPlace} {r : Reach} {b0 : Nat}
    (hv : Value.okWide Try.prog W r b0 33 v) (h : DataW.Trod enc Try.prog W base sp held 33 v d p) :
    ∃ xs ys nx, v = .agg (endsV xs ys nx).toArray ∧ xs.length = 16 ∧ ys.length = 16 ∧ Byt xs ∧ Byt ys ∧ 0 ≤ nx ∧ nx ≤ 255 := by
  obtain ⟨cs, rfl, hsz⟩ := okWide_struct Try.underlying33 hv
  rw [cellsEnds] at hsz
  obtain ⟨fuel, hf⟩ := h
  obtain ⟨y0, y1, y2, n, _, _, h0, h1, h2⟩ := Go.Deep.trod_struct3 Try.underlying33 hf
  rw [cellsAddr] at h0 h1
  obtain ⟨xs, hx, hxl, hxw⟩ := ints_of_array Try.underlying31 Try.underlying5 cells5 cellsAddr h0
  obtain ⟨ys, hy, hyl, hyw⟩ := ints_of_array Try.underlying31 Try.underlying5 cells5 cellsAddr h1
  obtain ⟨nx, hn, _, hnw⟩ := DataW.trod_int Try.underlying5 h2
  have hb := u8_of hnw
  refine ⟨xs, ys, nx, ?_, hxl, hyl, fun z hz => u8_of (hxw z hz), fun z hz => u8_of (hyw z hz), hb.1, hb.2⟩
  have e : cs.toList = endsV xs ys nx := by
    have hx' : (cs.toList.drop 0).take 16 = bv xs := hx
    have hy' : (cs.toList.drop 16).take 16 = bv ys := hy
    have hn' : (cs.toList.drop 32).take 1 = [.int .u8 nx] := by rw [← hn, cells5]; rfl
    unfold endsV
    rw [← hx', ← hy', ← hn']
    have e1 : (cs.toList.drop 32).take 1 = cs.toList.drop 32 := List.take_of_length_le (by simp [hsz])
    rw [e1]
    have e2 : cs.toList.drop 32 = (cs.toList.drop 16).drop 16 := by rw [List.drop_drop]
    rw [e2, List.take_append_drop, List.drop_zero, List.take_append_drop]
  rw [← e]

/-- cells of a row from a place on, as one value -/
theorem load_part {P : Program} {w : World} {g o : Nat} {t ty : TypeId} {l cs : List Value} {d : TypeDesc} (h : Row w g t l.toArray) (hc : ∀ j v, cs[j]? = some v → l[o + j]? = some v) (hu : P.underlying ty = some d)
    (hd : (match d with | .struct _ | .array _ _ => true | _ => false) = true) (hi : (P.info? ty).map (·.size) = some cs.length) :
    (Instr.loadAt ty (.pointer (some ⟨g, o, none⟩))).run P w = .ok (.agg cs.toArray) w := by
  simp only [Instr.loadAt, Instr.sureAddr, Sem.run_bind, Sem.run_pure, Result.andThen]
  have hl : (loadCells ⟨g, o, none⟩ cs.length).run P w = .ok cs.toArray w :=
    run_loadCells_list (P := P) w ⟨g, o, none⟩ cs (fun j v hv => by
      have hadd : (⟨g, o, none⟩ : Addr).add j = ⟨g, o + j, none⟩ := by unfold Addr.add; split <;> simp_all
      rw [hadd, h.cell]
      simpa using hc j v hv)
  cases hq : P.info? ty with
  | none => simp [hq] at hi
  | some i =>
    have hs : i.size = cs.length := by simpa [hq] using hi
    have hagg : (isAgg ty).run P w = .ok true w := by
      unfold isAgg
      rw [Sem.run_bind, run_underlying hu w]
      cases d <;> simp_all
    simp [loadVar, Sem.run_bind, hagg, sizeOf, typeInfo, hq, hs, hl]

/-- the two addresses and the protocol, out of their box -/
theorem load_src {w : World} {g : Nat} {t : TypeId} {s d : List Int} {nx : Int} (h : Row w g t (endsV s d nx).toArray) (hs : s.length = 16) :
    (Instr.loadAt 31 (.pointer (some ⟨g, 0, none⟩))).run Try.prog w = .ok (.agg (bv s).toArray) w :=
  load_part h (fun j v hv => by
    have := (List.getElem?_eq_some_iff.1 hv).1
    rw [endsV, Nat.zero_add, List.getElem?_append_left this]
    exact hv) Try.underlying31 rfl (by rw [size16]; simp [bv, hs])
theorem load_dst {w : World} {g : Nat} {t : TypeId} {s d : List Int} {nx : Int} (h : Row w g t (endsV s d nx).toArray) (hs : s.length = 16) (hd : d.length = 16) :
    (Instr.loadAt 31 (.pointer (some ⟨g, 16, none⟩))).run Try.prog w = .ok (.agg (bv d).toArray) w :=
  load_part h (fun j v hv => by
    have := (List.getElem?_eq_some_iff.1 hv).1
    rw [endsV, List.getElem?_append_right (by simp [bv, hs]), bv_length, hs, Nat.add_sub_cancel_left, List.getElem?_append_left this]
    exact hv) Try.underlying31 rfl (by rw [size16]; simp [bv, hd])
theorem cell_next {w : World} {g : Nat} {t : TypeId} {s d : List Int} {nx : Int} (h : Row w g t (endsV s d nx).toArray) (hs : s.length = 16) (hd : d.length = 16) : w.cell? ⟨g, 32, none⟩ = some (.int .u8 nx) := by
  rw [h.cell]
  simp [endsV, bv_length, hs, hd]

/-- the same, as a region that draws its order asks it -/
theorem ends_at {w : World} {g : Nat} {t : TypeId} {s d : List Int} {nx : Int} (h : Row w g t (endsV s d nx).toArray) (hs : s.length = 16) (hd : d.length = 16) :
    w.rangeAt g 0 (bv s) ∧ w.rangeAt g 16 (bv d) ∧ w.cell? ⟨g, 32, none⟩ = some (.int .u8 nx) := by
  refine ⟨fun j v hv => ?_, fun j v hv => ?_, cell_next h hs hd⟩
  · have := (List.getElem?_eq_some_iff.1 hv).1
    rw [h.cell, List.getElem?_toArray, endsV, Nat.zero_add, List.getElem?_append_left this]
    exact hv
  · have := (List.getElem?_eq_some_iff.1 hv).1
    rw [h.cell, List.getElem?_toArray, endsV, List.getElem?_append_right (by simp [bv, hs]), bv_length, hs, Nat.add_sub_cancel_left, List.getElem?_append_left this]
    exact hv

/-- append to a slice that has no room: bytes of the call's own; all that was there stays -/
theorem run_append_full (w : World) (ty : TypeId) (A : Option Addr) (n : Nat) (u : Value) (xs zs : List Int) (hl : xs.length = n) (hr : Rd w A xs) (hA : A ≠ none) (hu : Slc w u zs) (hz : 0 < zs.length) (hn : n + zs.length ≤ 16777216) :
    ∃ v' w', (Builtin.append_ #[22, 22] ty #[.slice A n n, u]).run Try.prog w = .ok v' w' ∧ Own w' w.heap.size v' (xs ++ zs) ∧ Below w.heap.size w w' := by
  obtain ⟨i, hi, hz0, hz1, hz2⟩ := info_parts info_u8
  rcases hu with ⟨rfl, rfl⟩ | ⟨a, c, rfl, hr2, _⟩
  · simp at hz
  · cases A with
    | none => exact absurd rfl hA
    | some b =>
      obtain ⟨v', w', h1, h2, h3⟩ := run_append_arg_grows (P := Try.prog) w 22 ty 5 i (.int .u8 0) 1 1 Try.underlying22 hi hz0 hz1 hz2 rfl (by omega) b n n (bv xs) (by simp [bv, hl]) (rd_list hr)
        a zs.length c (bv zs) (by simp [bv]) (rd_list hr2) (by omega) (by unfold maxLen; omega) (by omega)
      refine ⟨v', w', h1, ?_, (Below.refl _ _).grown h3 (Nat.le_refl _) (fun k e => by cases e)⟩
      unfold Own
      rw [List.length_append, hl]
      simpa [bv] using h2

/-- one append as one step of a region that draws -/
theorem wp_append_of {P : Program} {o : Oper} {a : Act} {w w' : World} {K : Act → World → Prop} {Q : Exit → Act → World → Prop} {t : TypeId} {v u r : Value} (s x : Operand)
    (ho : o.op = .call { callee := .builtin .append, args := #[s, x], argTypes := #[t, t] }) (hs : a.eval s = v) (hx : a.eval x = u)
    (hrun : (Builtin.append_ #[t, t] o.type #[v, u]).run P w = .ok r w') (h : K (a.put o.dst r) w') : Oper.wp P o a w K Q := by
  unfold Oper.wp execOp
  simp only [ho, resolve, invoke, builtin, Sem.run_bind, Sem.run_pure, Result.andThen_ok, List.map_toArray, List.map_cons, List.map_nil, hs, hx, hrun]
  exact h

theorem zeros_bv (k : Nat) : (zeros k).toList = bv (List.replicate k 0) := by rw [zeros_list]; simp [bv]

/-- the header's words -/
theorem tot_ph (s d : List Int) (n : Int) (nx : Int) (hs : s.length = 16) (hd : d.length = 16) (h0 : 0 ≤ n) (h1 : n ≤ 15000000) : tot (ph s d n nx) = tot s + tot d + (n / 65536 + n % 65536) + nx := by
  unfold ph
  rw [tot_even s _ (by omega), tot_even d _ (by omega), be_four n h0 h1]
  simp only [List.cons_append, List.nil_append, tot]
  omega

theorem rd_ne (a b : Int) (ha : 0 ≤ a) (hb : 0 ≤ b) (h : a % 65535 ≠ b % 65535) : rd a ≠ rd b := by
  unfold rd
  split <;> split <;> omega

theorem xor_one (n : Int) (h0 : 0 ≤ n) (h1 : n ≤ 255) : bits .xor .u8 n 1 = (if n % 2 = 0 then n + 1 else n - 1) := by
  have h : ∀ k : Fin 256, bits .xor .u8 ((k.1 : Nat) : Int) 1 = (if ((k.1 : Nat) : Int) % 2 = 0 then ((k.1 : Nat) : Int) + 1 else ((k.1 : Nat) : Int) - 1) := by decide +kernel
  obtain ⟨k, rfl⟩ := Int.eq_ofNat_of_zero_le h0
  exact h ⟨k, by omega⟩

/-- a row of one's own that is not nil, as its cells -/
theorem own_row {w : World} {base : Nat} {v : Value} {xs : List Int} (h : Own w base v xs) (hx : xs ≠ []) : ∃ g cap rest, v = .slice (some ⟨g, 0, none⟩) xs.length cap ∧ base ≤ g ∧ Row w g 5 (bv xs ++ rest).toArray ∧ xs.length ≤ cap := by
  unfold Own at h
  rcases h.2 with ⟨rfl, h0⟩ | ⟨g, cap, cur, rfl, hb, hg, hc, _, _, ht⟩
  · exact absurd (List.eq_nil_of_length_eq_zero h0) hx
  · refine ⟨g, cap, cur.toList.drop xs.length, rfl, hb, ?_, hc⟩
    have e : (bv xs ++ cur.toList.drop xs.length).toArray = cur := by
      rw [← ht, Nat.mul_one, List.take_append_drop]
    rw [e]
    exact hg

theorem row_part {w : World} {g : Nat} {t : TypeId} {xs : List Int} {rest : List Value} (h : Row w g t (bv xs ++ rest).toArray) : Rd w (some ⟨g, 0, none⟩) xs :=
  rd_row h (fun j hj => by rw [Nat.zero_add, List.getElem?_append_left (by rw [bv_length]; exact hj)]; exact bv_get xs j hj)

theorem part_cell {w : World} {g : Nat} {t : TypeId} {xs : List Int} {rest : List Value} (h : Row w g t (bv xs ++ rest).toArray) (i : Nat) (hi : i < xs.length) : w.cell? ⟨g, i, none⟩ = some (.int .u8 (xs.getD i 0)) := by
  rw [h.cell, List.getElem?_toArray, List.getElem?_append_left (by rw [bv_length]; exact hi)]
  exact bv_get xs i hi

theorem part_set {w : World} {g : Nat} {t : TypeId} {xs : List Int} {rest : List Value} (h : Row w g t (bv xs ++ rest).toArray) (i : Nat) (hi : i < xs.length) (z : Int) : Row (w.setCell ⟨g, i, none⟩ (.int .u8 z)) g t (bv (xs.set i z) ++ rest).toArray := by
  have h' := h.set i (.int .u8 z)
  rw [List.setIfInBounds_toArray, List.set_append_left _ _ (by rw [bv_length]; exact hi), bv_set] at h'
  exact h'

theorem byt_set {xs : List Int} {i : Nat} {z : Int} (h : Byt xs) (hz : 0 ≤ z ∧ z ≤ 255) : Byt (xs.set i z) := fun y hy => by
  rcases List.mem_or_eq_of_mem_set hy with h1 | rfl
  · exact h y h1
  · exact hz

end Go.Proofs.Ytoadligcfecpfaa
