/-
  A list of records and its twin; a twin that was left as it was made; lists of records that are the same.
  Conditions: a list that reads as records; at most 1000000, with at most 900000 sources each.
-/
import Derived.Test.YthkiamkhignchaaDoorChkAll
import Derived.Test.YthkiamkhignchaaDoorOpoTa
import Derived.StillTailTactics
import Derived.Deep.RegionHeld3
import Derived.BigRegion
namespace Go.Proofs.YthkiamkhignchaaDoor.Mg
set_option maxRecDepth 100000
open Go.RowKit Ops Hd
open Oz (ReadsA load_addr twinAddrs_any leftAddrs_true sameA_true oddV set_at_same size16A yieldsIf_load_of off_add)

/-- a record by value -/
structure Rl where
  k : Int
  g : List Int
  A : Option Addr
  n : Nat
  c : Nat
abbrev Rl.v (x : Rl) : Value := .slice x.A x.n x.c
def rv (x : Rl) : List Value := [.int .u8 x.k] ++ (bv x.g ++ [x.v])
def rvs (l : List Rl) : List Value := l.flatMap rv
theorem rv_len {x : Rl} (h : x.g.length = 16) : (rv x).length = 18 := by simp [rv, bv_length, h]
theorem flat_map_set {α : Type} (f : α → List Value) (s : Nat) : ∀ {l : List α} {i : Nat} (_ : i < l.length) (_ : ∀ y ∈ l, (f y).length = s) (x : α) (_ : (f x).length = s), (l.flatMap f).take (i * s) ++ f x ++ (l.flatMap f).drop (i * s + (f x).length) = (l.set i x).flatMap f
  | [], i, h, _, _, _ => by simp at h
  | y :: l, 0, _, hl, x, hx => by
    have hy := hl y (by simp)
    rw [List.set_cons_zero, List.flatMap_cons, List.flatMap_cons, hx]
    simp only [Nat.zero_mul, List.take_zero, List.nil_append, Nat.zero_add]
    rw [List.drop_left' hy]
  | y :: l, i + 1, hi, hl, x, hx => by
    have hy := hl y (by simp)
    have ih := flat_map_set f s (l := l) (i := i) (by simpa using hi) (fun z hz => hl z (by simp [hz])) x hx
    rw [List.set_cons_succ, List.flatMap_cons, List.flatMap_cons, ← ih, show (i + 1) * s = (f y).length + i * s by rw [hy, Nat.add_mul]; omega, List.take_length_add_append]
    rw [show (f y).length + i * s + (f x).length = (f y).length + (i * s + (f x).length) by omega, List.drop_length_add_append]
    simp
theorem flat_map_len {α : Type} (f : α → List Value) (s : Nat) : ∀ {l : List α} (_ : ∀ y ∈ l, (f y).length = s), (l.flatMap f).length = l.length * s
  | [], _ => by simp
  | y :: l, hl => by
    have ih := flat_map_len f s (l := l) (fun z hz => hl z (by simp [hz]))
    rw [List.flatMap_cons, List.length_append, ih, hl y (by simp), List.length_cons, Nat.add_mul]
    omega
theorem rvs_part {l : List Rl} {i : Nat} {x : Rl} (h : l[i]? = some x) (hl : ∀ y ∈ l, y.g.length = 16) : Part (rvs l) (i * 18) (rv x) := by
  have hi := (List.getElem?_eq_some_iff.1 h).1
  have hx := hl x (List.mem_of_getElem? h)
  have e := flat_map_set rv 18 hi (fun y hy => rv_len (hl y hy)) x (rv_len hx)
  rw [set_at_same h] at e
  show Part (l.flatMap rv) (i * 18) (rv x)
  rw [← e, List.append_assoc]
  refine part_mid _ _ _ ?_
  rw [List.length_take, flat_map_len rv 18 (fun y hy => rv_len (hl y hy)), Nat.min_eq_left (Nat.mul_le_mul_right 18 (Nat.le_of_lt hi))]
theorem rv_one (x : Rl) : ∀ v ∈ rv x, v.oneCell' = true := fun v hv => by
  simp only [rv, List.mem_append, List.mem_cons, List.not_mem_nil, or_false] at hv
  rcases hv with rfl | hv | rfl
  · rfl
  · exact bv_byte hv
  · rfl
theorem sizeRec {x : Rl} (h : x.g.length = 16) : (Tryd.prog.info? 53).map (·.size) = some (rv x).length := by rw [rv_len h]; kernel_rfl
theorem made_rec_lit (a0 a1 a2 a3 a4 a5 a6 a7 a8 a9 a10 a11 a12 a13 a14 a15 k : Int) (v : Value) (A : Option Addr) (n c : Nat) (w : World) (hv : v = .slice A n c) : (Instr.build 53 #[(0, .int .u8 k), (1, av [a0, a1, a2, a3, a4, a5, a6, a7, a8, a9, a10, a11, a12, a13, a14, a15]), (2, v)]).run Tryd.prog w = .ok (.agg (rv ⟨k, [a0, a1, a2, a3, a4, a5, a6, a7, a8, a9, a10, a11, a12, a13, a14, a15], A, n, c⟩).toArray) w := by
  subst hv
  kernel_rfl
theorem made_rec {g : List Int} (h : g.length = 16) (k : Int) (A : Option Addr) (n c : Nat) (w : World) : (Instr.build 53 #[(0, .int .u8 k), (1, av g), (2, .slice A n c)]).run Tryd.prog w = .ok (.agg (rv ⟨k, g, A, n, c⟩).toArray) w := by
  match g, h with
  | [a0, a1, a2, a3, a4, a5, a6, a7, a8, a9, a10, a11, a12, a13, a14, a15], _ => exact made_rec_lit a0 a1 a2 a3 a4 a5 a6 a7 a8 a9 a10 a11 a12 a13 a14 a15 k _ A n c w rfl

/-- the twin of a list of addresses, in a block -/
def TwinA (w : World) (q : Nat) (az : List (List Int)) : Prop := Row w q 23 (bv (az ++ List.replicate 4 oddV).flatten).toArray
theorem TwinA.reads {w : World} {q : Nat} {az : List (List Int)} (h : TwinA w q az) (h16 : ∀ x ∈ az, x.length = 16) : ReadsA w (some ⟨q, 0, none⟩) az := fun i zs hi => by
  have hh : ∀ x ∈ az ++ List.replicate 4 oddV, x.length = 16 := fun x hx => (List.mem_append.1 hx).elim (h16 x) (fun e => by rw [List.eq_of_mem_replicate e]; rfl)
  have hi2 : (az ++ List.replicate 4 oddV)[i]? = some zs := by rw [List.getElem?_append_left (List.getElem?_eq_some_iff.1 hi).1]; exact hi
  refine ⟨h16 zs (List.mem_of_getElem? hi), _, rfl, ?_⟩
  rw [show (⟨q, 0, none⟩ : Addr).add (i * 16) = ⟨q, i * 16, none⟩ by unfold Addr.add; split <;> simp_all]
  exact rd_row h (fun j hj => Oz.flat_part hi2 hh j _ (bv_get _ j hj))
/-- one of the twin's -/
abbrev spare : Rl := ⟨201, z16, none, 0, 0⟩
/-- a twin as far as the i-th element -/
structure TwinR (w0 w : World) (g : Nat) (ls : List Rl) (rs : List Rc) (i : Nat) : Prop where
  len : ls.length = rs.length + 4
  g16 : ∀ y ∈ ls, y.g.length = 16
  row : Row w g 53 (rvs ls).toArray
  own : w0.heap.size ≤ g
  each : ∀ (j : Nat) (r : Rc), j < i → rs[j]? = some r → ∃ q, ls[j]? = some ⟨r.k, r.g, some ⟨q, 0, none⟩, r.s.length, r.s.length + 4⟩ ∧ TwinA w q r.s ∧ w0.heap.size ≤ q
  room : ∀ j, rs.length ≤ j → j < i → ls[j]? = some spare
  below : Below w0.heap.size w0 w
section
variable {w0 w w' : World} {g i : Nat} {ls : List Rl} {rs : List Rc}
theorem TwinR.keep (h : TwinR w0 w g ls rs i) (q : Below w.heap.size w w') : TwinR w0 w' g ls rs i :=
  ⟨h.len, h.g16, h.row.keep q, h.own, fun j o hj ho => by
    obtain ⟨b, h1, h2, h3⟩ := h.each j o hj ho
    exact ⟨b, h1, Row.keep h2 q, h3⟩, h.room, h.below.trans (q.mono h.below.size)⟩
theorem TwinR.drew (h : TwinR w0 w g ls rs i) : TwinR w0 w.drew g ls rs i := ⟨h.len, h.g16, h.row, h.own, h.each, h.room, still_below h.below⟩
theorem TwinR.put (h : TwinR w0 w g ls rs i) (x : Rl) (hx : x.g.length = 16) : TwinR w0 (w.setRow g (rvs (ls.set i x)).toArray) g (ls.set i x) rs i := by
  have hg : ∀ (j : Nat) (y : Rl), j < i → ((ls.set i x)[j]? = some y ↔ ls[j]? = some y) := fun j y hj => by
    rw [List.getElem?_set_ne (by omega)]
  refine ⟨by rw [List.length_set, h.len], fun y hy => (List.mem_or_eq_of_mem_set hy).elim (h.g16 y) (fun e => by rw [e]; exact hx), h.row.setRow _, h.own, fun j o hj ho => ?_, fun j h1 h2 => (hg j _ h2).2 (h.room j h1 h2), below_setRow h.below g _ h.own⟩
  obtain ⟨b, h1, h2, h3⟩ := h.each j o hj ho
  exact ⟨b, (hg j _ hj).2 h1, row_setRow_far h2 _ (row_ne h2 h.row (by decide)), h3⟩
theorem TwinR.store (h : TwinR w0 w g ls rs i) (hi : i < rs.length + 4) (x : Rl) (hx : x.g.length = 16) : (Instr.storeAt 53 (.pointer (some ⟨g, i * 18, none⟩)) (.agg (rv x).toArray)).run Tryd.prog w = .ok () (w.setRow g (rvs (ls.set i x)).toArray) := by
  have hl := h.len
  have e := flat_map_set rv 18 (l := ls) (i := i) (by omega) (fun y hy => rv_len (h.g16 y hy)) x (rv_len hx)
  have e2 : rvs (ls.set i x) = (ls.set i x).flatMap rv := rfl
  rw [e2, ← e]
  exact store_part h.row (by show _ ≤ (ls.flatMap rv).length; rw [flat_map_len rv 18 (fun y hy => rv_len (h.g16 y hy)), rv_len hx]; omega) (sizeRec hx) (rv_one x)
theorem TwinR.more (h : TwinR w0 w g ls rs i) (hi : rs.length ≤ i) (hx : ls[i]? = some spare) : TwinR w0 w g ls rs (i + 1) :=
  ⟨h.len, h.g16, h.row, h.own, fun j o hj ho => h.each j o (by have := (List.getElem?_eq_some_iff.1 ho).1; omega) ho, fun j h1 h2 => by
    rcases Nat.lt_or_ge j i with h3 | h3
    · exact h.room j h1 h3
    · obtain rfl : j = i := by omega
      exact hx, h.below⟩
theorem TwinR.next (h : TwinR w0 w g ls rs i) {r : Rc} {q : Nat} (ho : rs[i]? = some r) (hx : ls[i]? = some ⟨r.k, r.g, some ⟨q, 0, none⟩, r.s.length, r.s.length + 4⟩) (ht : TwinA w q r.s) (hq : w0.heap.size ≤ q) : TwinR w0 w g ls rs (i + 1) := by
  have hil := (List.getElem?_eq_some_iff.1 ho).1
  refine ⟨h.len, h.g16, h.row, h.own, fun j o' hj ho' => ?_, fun j h1 h2 => by omega, h.below⟩
  rcases Nat.lt_or_ge j i with h3 | h3
  · exact h.each j o' h3 ho'
  · obtain rfl : j = i := by omega
    rw [ho] at ho'
    injection ho' with ho'
    subst ho'
    exact ⟨q, hx, ht, hq⟩
/-- a record by value that lies in a row -/
theorem TwinR.cells (h : TwinR w0 w g ls rs i) {j : Nat} {x : Rl} (hx : ls[j]? = some x) : w.cell? ⟨g, j * 18, none⟩ = some (.int .u8 x.k) ∧ Rd w (some ⟨g, j * 18 + 1, none⟩) x.g ∧ w.cell? ⟨g, j * 18 + 17, none⟩ = some x.v := by
  have hp := rvs_part hx h.g16
  have hg := h.g16 x (List.mem_of_getElem? hx)
  refine ⟨?_, ?_, ?_⟩
  · rw [h.row.cell]
    have := hp 0 (.int .u8 x.k) rfl
    simpa using this
  · refine rd_row h.row (fun j' hj => ?_)
    have := hp (1 + j') (.int .u8 (x.g.getD j' 0)) (by
      unfold rv
      rw [List.getElem?_append_right (by simp), List.getElem?_append_left (by simp [bv_length]; omega)]
      have := bv_get x.g j' hj
      simpa using this)
    rw [show j * 18 + 1 + j' = j * 18 + (1 + j') by omega]
    exact this
  · rw [h.row.cell]
    have := hp 17 x.v (by
      unfold rv
      rw [List.getElem?_append_right (by simp), List.getElem?_append_right (by simp [bv_length]; omega)]
      simp [bv_length, hg])
    simpa using this
theorem TwinR.reads (h : TwinR w0 w g ls rs (rs.length + 4)) (hr : ∀ r ∈ rs, ∀ a ∈ r.s, a.length = 16) : ReadsR w (some ⟨g, 0, none⟩) rs := fun j r ho => by
  have hj := (List.getElem?_eq_some_iff.1 ho).1
  obtain ⟨q, h1, h2, _⟩ := h.each j r (by omega) ho
  obtain ⟨c1, c2, c3⟩ := h.cells h1
  have e : (⟨g, 0, none⟩ : Addr).add (j * 18) = ⟨g, j * 18, none⟩ := by unfold Addr.add; split <;> simp_all
  refine ⟨_, rfl, ?_⟩
  rw [e]
  exact ⟨c1, h.g16 _ (List.mem_of_getElem? h1), c2, _, _, c3, h2.reads (hr r (List.mem_of_getElem? ho))⟩
end

theorem made_recs (m : Nat) : madeCells (rv ⟨0, z16, none, 0, 0⟩).toArray (m * 18) = (rvs (List.replicate m ⟨0, z16, none, 0, 0⟩)).toArray := by
  have hl : ∀ y ∈ List.replicate m (⟨0, z16, none, 0, 0⟩ : Rl), y.g.length = 16 := fun y hy => by rw [List.eq_of_mem_replicate hy]; rfl
  apply Array.ext_getElem?
  intro j
  by_cases hj : j < m * 18
  · have h : (List.replicate m (⟨0, z16, none, 0, 0⟩ : Rl))[j / 18]? = some ⟨0, z16, none, 0, 0⟩ := by rw [List.getElem?_replicate, if_pos (by omega)]
    have hlt : j % 18 < (rv ⟨0, z16, none, 0, 0⟩).length := by rw [rv_len rfl]; omega
    have hp := rvs_part h hl (j % 18) _ (List.getElem?_eq_getElem hlt)
    rw [show j / 18 * 18 + j % 18 = j by omega] at hp
    have e : (rvs (List.replicate m ⟨0, z16, none, 0, 0⟩)).toArray[j]? = some ((rv ⟨0, z16, none, 0, 0⟩)[j % 18]) := by rw [List.getElem?_toArray]; exact hp
    rw [e]
    simp only [madeCells, Array.getElem?_map, List.size_toArray, rv_len (x := ⟨0, z16, none, 0, 0⟩) rfl]
    rw [Array.getElem?_range, if_pos hj]
    simp only [Option.map_some]
    rw [getElem!_pos _ _ (by simp only [List.size_toArray]; exact hlt)]
    simp
  · rw [Array.getElem?_eq_none (by rw [size_madeCells]; omega), Array.getElem?_eq_none (by simp only [List.size_toArray]; show (List.flatMap rv _).length ≤ j; rw [flat_map_len rv 18 (fun y hy => rv_len (hl y hy)), List.length_replicate]; omega)]
theorem run_make_rec (n : Nat) (hn : n ≤ 2000000) (u : World) : (Instr.makeSlice 33 (.int .i64 n) (.int .i64 n)).run Tryd.prog u = .ok (.slice (some ⟨u.heap.size, 0, none⟩) n n) (u.alloc (.cells (rvs (List.replicate n ⟨0, z16, none, 0, 0⟩)).toArray 53)) := by
  have hT : (Tryd.prog.info? 53).map (fun i => (i.zero, i.size, i.bytes)) = some (some (.agg (rv ⟨0, z16, none, 0, 0⟩).toArray), 18, 48) := by kernel_rfl
  obtain ⟨i, hi, hz0, hz1, hz2⟩ := info_parts hT
  have h := run_make (P := Tryd.prog) u 33 53 i _ Tryd.underlying33 hi hz0 .i64 .i64 n n (by omega) (by omega) (by rw [hz2]; omega) (by omega)
  rw [← made_recs]
  simpa [hz1, Value.cells] using h
theorem TwinR.begin (w : World) (rs : List Rc) (n : Nat) (hl : rs.length = n) : TwinR w (w.alloc (.cells (rvs (List.replicate (n + 4) ⟨0, z16, none, 0, 0⟩)).toArray 53)) w.heap.size (List.replicate (n + 4) ⟨0, z16, none, 0, 0⟩) rs 0 :=
  ⟨by simp [hl], fun y hy => by rw [List.eq_of_mem_replicate hy]; rfl, row_new rfl, Nat.le_refl _, fun j o hj => by omega, fun j h1 h2 => by omega, below_new w _⟩
/-- what of a record's place is read -/
def RcS (w : World) (b : Addr) (k : Int) (g : List Int) (B : Option Addr) (n c : Nat) : Prop := w.cell? b = some (.int .u8 k) ∧ Rd w (some ⟨b.block, b.off + 1, none⟩) g ∧ w.cell? ⟨b.block, b.off + 17, none⟩ = some (.slice B n c)

set_option linter.unusedSimpArgs false in
set_option maxHeartbeats 8000000 in
theorem twinRecords_any (A : Option Addr) (n c : Nat) (rs : List Rc) (w : World) (hl : rs.length = n) (hn : n ≤ 1000000) (ha : ReadsR w A rs) (hz : ∀ r ∈ rs, r.s.length ≤ 900000) :
    Calls Tryd.prog 24 #[.slice A n c] w fun e w' => ∃ g ls, e = .returned (.slice (some ⟨g, 0, none⟩) n (n + 4)) ∧ TwinR w w' g ls rs (n + 4) := by
  have hmk := run_make_rec (n + 4) (by omega) w
  simp only [Int.natCast_add, Int.cast_ofNat_Int] at hmk
  have T0 := TwinR.begin w rs n hl
  have HA := veil ha
  have HL := veil hl
  have HZ := veil hz
  have in16 : (n : Int) ≤ 1000000 := by omega
  obtain ⟨g, hg⟩ : ∃ g, w.heap.size = g := ⟨_, rfl⟩
  rw [hg] at hmk T0
  generalize w.alloc (.cells (rvs (List.replicate (n + 4) ⟨0, z16, none, 0, 0⟩)).toArray 53) = w1 at hmk T0
  generalize List.replicate (n + 4) (⟨0, z16, none, 0, 0⟩ : Rl) = ls0 at T0
  have VT := veil T0
  clear ha hl hz T0 hg
  go_enter Tryd.func24, Tryd.ntmps24
  go_wp2_with fail
  clear hmk
  go_loopw [4] (fun s4 wr => ∃ (i : Nat) (ls : List Rl), i ≤ n + 4 ∧ s4 = .int .i64 i ∧ Hid (TwinR w wr g ls rs i)) (fun s4 _ => n + 4 - (intOf s4).toNat)
  case atStart => exact ⟨0, ls0, Nat.zero_le _, rfl, VT⟩
  case round =>
    rename World => wr
    obtain ⟨i, ls, hi, rfl, VR⟩ := hrel
    clear VT
    by_cases hlt : i < n + 4
    · have ij : (i : Int) < (n : Int) + 4 := by omega
      have T1 := veil (VR.out.store (by rw [HL.out]; exact hlt) spare rfl)
      have V1 := VR.out.put spare rfl
      have hi1 : (ls.set i spare)[i]? = some spare := by rw [List.getElem?_set_self]; rw [VR.out.len, HL.out]; exact hlt
      generalize wr.setRow g (rvs (ls.set i spare)).toArray = w2 at T1 V1
      generalize ls.set i spare = ls2 at V1 hi1
      clear VR
      by_cases hin : i < n
      · have ijn : (i : Int) < (n : Int) := by omega
        obtain ⟨r, ho⟩ : ∃ r, rs[i]? = some r := ⟨_, List.getElem?_eq_getElem (by rw [HL.out]; exact hin)⟩
        obtain ⟨a, rfl, X⟩ := HA.out i r ho
        obtain ⟨B, m, xs, xr⟩ := X.srcs
        have hx16 := X.len
        have SF : ∀ u, Below w.heap.size w u → RcS u (a.add (i * 18)) r.k r.g B r.s.length m := fun u hu => by
          refine ⟨(X.keep hu).kind, (X.keep hu).grp, ?_⟩
          have hb := hu
          unfold World.cell? at xs ⊢
          have hlt : (a.add (i * 18)).block < w.heap.size := by
            cases hb : w.heap[(a.add (i * 18)).block]? with
            | none => simp [hb] at xs
            | some o => exact (Array.getElem?_eq_some_iff.1 hb).1
          rw [hu.block _ hlt]
          exact xs
        have KT := veil (twinAddrs_any B r.s.length m r.s w2.drew rfl (HZ.out r (List.mem_of_getElem? ho)) (xr.keep (still_below V1.below)))
        have VSF := veil SF
        have C0 := veil (SF _ (still_below V1.below))
        have VV := veil V1
        have HO := veil ho
        have H16 := veil hx16
        have hrn : (r.s.length : Int) ≤ 900000 := by have := HZ.out r (List.mem_of_getElem? ho); omega
        clear X xs xr V1 ho SF hx16
        obtain ⟨rk, hrk⟩ : ∃ x, r.k = x := ⟨_, rfl⟩
        obtain ⟨rg, hrg⟩ : ∃ x, r.g = x := ⟨_, rfl⟩
        obtain ⟨rn, hrn2⟩ : ∃ x, r.s.length = x := ⟨_, rfl⟩
        rw [hrk, hrg, hrn2] at VSF C0
        rw [hrn2] at KT hrn
        rw [hrg] at H16
        have HK := veil hrk
        have HG := veil hrg
        have HN := veil hrn2
        clear hrk hrg hrn2
        go_wp2_with (refine wpList_store_of rfl _ _ rfl rfl rfl T1.out ?_)
        clear T1
        refine wp_region_noPanic ?_
        refine wp_region_held_drew (S := (fun w' => RcS w' (a.add (i * 18)) rk rg B rn m)) (by kernel_rfl) C0.out (fun hHeld => ?_)
        refine wpAnyH_take (i := 0) (v := ?_) (by rfl) (by kernel_rfl) (by kernel_rfl) (by kernel_rfl) (fun _ _ _ h => h) (Or.inl ⟨by rfl, ?_⟩) hHeld ?_
        rotate_left
        · intro w' hSw
          (try dsimp only at hSw)
          obtain ⟨hS1, hS2, hS3⟩ := hSw
          clear hS2
          simp only [List.getElem_toArray, List.getElem_cons_zero, List.getElem_cons_succ]
          go_simp
          all_goals (try with_reducible rfl)
        try simp only [Act.put, List.setIfInBounds_toArray, List.set_cons_zero, List.set_cons_succ, List.getElem_toArray, List.getElem_cons_zero, List.getElem_cons_succ]
        refine wpAnyH_take (i := 1) (v := ?_) (by rfl) (by kernel_rfl) (by kernel_rfl) (by kernel_rfl) (fun _ _ _ h => h) (Or.inl ⟨by rfl, ?_⟩) hHeld ?_
        rotate_left
        · intro w' hSw
          (try dsimp only at hSw)
          obtain ⟨hS1, hS2, hS3⟩ := hSw
          clear hS2
          simp only [List.getElem_toArray, List.getElem_cons_zero, List.getElem_cons_succ]
          go_simp
          all_goals (try with_reducible rfl)
        try simp only [Act.put, List.setIfInBounds_toArray, List.set_cons_zero, List.set_cons_succ, List.getElem_toArray, List.getElem_cons_zero, List.getElem_cons_succ]
        refine wpAnyH_take (i := 2) (v := ?_) (by rfl) (by kernel_rfl) (by kernel_rfl) (by kernel_rfl) (fun _ _ _ h => h) (Or.inl ⟨by rfl, ?_⟩) hHeld ?_
        rotate_left
        · intro w' hSw
          (try dsimp only at hSw)
          obtain ⟨hS1, hS2, hS3⟩ := hSw
          clear hS2
          simp only [List.getElem_toArray, List.getElem_cons_zero, List.getElem_cons_succ]
          go_simp
          all_goals (try with_reducible rfl)
        try simp only [Act.put, List.setIfInBounds_toArray, List.set_cons_zero, List.set_cons_succ, List.getElem_toArray, List.getElem_cons_zero, List.getElem_cons_succ]
        refine wpAnyH_take (i := 3) (v := ?_) (by rfl) (by kernel_rfl) (by kernel_rfl) (by kernel_rfl) (fun _ _ _ h => h) (Or.inl ⟨by rfl, ?_⟩) hHeld ?_
        rotate_left
        · intro w' hSw
          (try dsimp only at hSw)
          obtain ⟨hS1, hS2, hS3⟩ := hSw
          clear hS2
          simp only [List.getElem_toArray, List.getElem_cons_zero, List.getElem_cons_succ]
          go_simp
          all_goals (try with_reducible rfl)
        try simp only [Act.put, List.setIfInBounds_toArray, List.set_cons_zero, List.set_cons_succ, List.getElem_toArray, List.getElem_cons_zero, List.getElem_cons_succ]
        refine wpAnyH_take (i := 4) (v := ?_) (by rfl) (by kernel_rfl) (by kernel_rfl) (by kernel_rfl) (fun _ _ _ h => h) (Or.inl ⟨by rfl, ?_⟩) hHeld ?_
        rotate_left
        · intro w' hSw
          (try dsimp only at hSw)
          obtain ⟨hS1, hS2, hS3⟩ := hSw
          clear hS2
          simp only [List.getElem_toArray, List.getElem_cons_zero, List.getElem_cons_succ]
          go_simp
          all_goals (try with_reducible rfl)
        try simp only [Act.put, List.setIfInBounds_toArray, List.set_cons_zero, List.set_cons_succ, List.getElem_toArray, List.getElem_cons_zero, List.getElem_cons_succ]
        refine wpAnyH_take (i := 5) (v := ?_) (by rfl) (by kernel_rfl) (by kernel_rfl) (by kernel_rfl) (fun _ _ _ h => h) (Or.inl ⟨by rfl, ?_⟩) hHeld ?_
        rotate_left
        · intro w' hSw
          (try dsimp only at hSw)
          obtain ⟨hS1, hS2, hS3⟩ := hSw
          clear hS2
          simp only [List.getElem_toArray, List.getElem_cons_zero, List.getElem_cons_succ]
          go_simp
          all_goals (try with_reducible rfl)
        try simp only [Act.put, List.setIfInBounds_toArray, List.set_cons_zero, List.set_cons_succ, List.getElem_toArray, List.getElem_cons_zero, List.getElem_cons_succ]
        refine wpAnyH_take (i := 6) (v := ?_) (by rfl) (by kernel_rfl) (by kernel_rfl) (by kernel_rfl) (fun _ _ _ h => h) (Or.inl ⟨by rfl, ?_⟩) hHeld ?_
        rotate_left
        · intro w' hSw
          (try dsimp only at hSw)
          obtain ⟨hS1, hS2, hS3⟩ := hSw
          clear hS2
          simp only [List.getElem_toArray, List.getElem_cons_zero, List.getElem_cons_succ]
          go_simp
          all_goals (try with_reducible rfl)
        try simp only [Act.put, List.setIfInBounds_toArray, List.set_cons_zero, List.set_cons_succ, List.getElem_toArray, List.getElem_cons_zero, List.getElem_cons_succ]
        refine wpAnyH_take (i := 7) (v := ?_) (by rfl) (by kernel_rfl) (by kernel_rfl) (by kernel_rfl) (fun _ _ _ h => h) (Or.inl ⟨by rfl, ?_⟩) hHeld ?_
        rotate_left
        · intro w' hSw
          (try dsimp only at hSw)
          obtain ⟨hS1, hS2, hS3⟩ := hSw
          clear hS2
          simp only [List.getElem_toArray, List.getElem_cons_zero, List.getElem_cons_succ]
          go_simp
          all_goals (try with_reducible rfl)
        try simp only [Act.put, List.setIfInBounds_toArray, List.set_cons_zero, List.set_cons_succ, List.getElem_toArray, List.getElem_cons_zero, List.getElem_cons_succ]
        refine wpAnyH_take (i := 8) (v := ?_) (by rfl) (by kernel_rfl) (by kernel_rfl) (by kernel_rfl) (fun _ _ _ h => h) (Or.inl ⟨by rfl, ?_⟩) hHeld ?_
        rotate_left
        · intro w' hSw
          (try dsimp only at hSw)
          obtain ⟨hS1, hS2, hS3⟩ := hSw
          clear hS2
          simp only [List.getElem_toArray, List.getElem_cons_zero, List.getElem_cons_succ]
          go_simp
          all_goals (try with_reducible rfl)
        try simp only [Act.put, List.setIfInBounds_toArray, List.set_cons_zero, List.set_cons_succ, List.getElem_toArray, List.getElem_cons_zero, List.getElem_cons_succ]
        refine wpAnyH_take (i := 9) (v := ?_) (by rfl) (by kernel_rfl) (by kernel_rfl) (by kernel_rfl) (fun _ _ _ h => h) (Or.inl ⟨by rfl, ?_⟩) hHeld ?_
        rotate_left
        · intro w' hSw
          (try dsimp only at hSw)
          obtain ⟨hS1, hS2, hS3⟩ := hSw
          clear hS2
          simp only [List.getElem_toArray, List.getElem_cons_zero, List.getElem_cons_succ]
          go_simp
          all_goals (try with_reducible rfl)
        try simp only [Act.put, List.setIfInBounds_toArray, List.set_cons_zero, List.set_cons_succ, List.getElem_toArray, List.getElem_cons_zero, List.getElem_cons_succ]
        refine wpAnyH_take (i := 10) (v := ?_) (by rfl) (by kernel_rfl) (by kernel_rfl) (by kernel_rfl) (fun _ _ _ h => h) (Or.inl ⟨by rfl, ?_⟩) hHeld ?_
        rotate_left
        · intro w' hSw
          (try dsimp only at hSw)
          obtain ⟨hS1, hS2, hS3⟩ := hSw
          clear hS2
          simp only [List.getElem_toArray, List.getElem_cons_zero, List.getElem_cons_succ]
          go_simp
          all_goals (try with_reducible rfl)
        try simp only [Act.put, List.setIfInBounds_toArray, List.set_cons_zero, List.set_cons_succ, List.getElem_toArray, List.getElem_cons_zero, List.getElem_cons_succ]
        refine wpAnyH_take (i := 11) (v := _) (by rfl) (by kernel_rfl) (by kernel_rfl) (by kernel_rfl) (fun _ _ _ h => h) (yieldsIf_load_of (by rfl) _ _ rfl _ rfl (fun u h => load_addr h.2.1 H16.out)) hHeld ?_
        try simp only [Act.put, List.setIfInBounds_toArray, List.set_cons_zero, List.set_cons_succ, List.getElem_toArray, List.getElem_cons_zero, List.getElem_cons_succ]
        refine wpAnyH_take (i := 12) (v := ?_) (by rfl) (by kernel_rfl) (by kernel_rfl) (by kernel_rfl) (fun _ _ _ h => h) (Or.inl ⟨by rfl, ?_⟩) hHeld ?_
        rotate_left
        · intro w' hSw
          (try dsimp only at hSw)
          obtain ⟨hS1, hS2, hS3⟩ := hSw
          clear hS2
          simp only [List.getElem_toArray, List.getElem_cons_zero, List.getElem_cons_succ]
          go_simp
          all_goals (try with_reducible rfl)
        try simp only [Act.put, List.setIfInBounds_toArray, List.set_cons_zero, List.set_cons_succ, List.getElem_toArray, List.getElem_cons_zero, List.getElem_cons_succ]
        refine wpAnyH_take (i := 13) (v := ?_) (by rfl) (by kernel_rfl) (by kernel_rfl) (by kernel_rfl) (fun _ _ _ h => h) (Or.inl ⟨by rfl, ?_⟩) hHeld ?_
        rotate_left
        · intro w' hSw
          (try dsimp only at hSw)
          obtain ⟨hS1, hS2, hS3⟩ := hSw
          clear hS2
          simp only [List.getElem_toArray, List.getElem_cons_zero, List.getElem_cons_succ]
          go_simp
          all_goals (try with_reducible rfl)
        try simp only [Act.put, List.setIfInBounds_toArray, List.set_cons_zero, List.set_cons_succ, List.getElem_toArray, List.getElem_cons_zero, List.getElem_cons_succ]
        refine wpAnyH_take (i := 14) (v := ?_) (by rfl) (by kernel_rfl) (by kernel_rfl) (by kernel_rfl) (fun _ _ _ h => h) (Or.inl ⟨by rfl, ?_⟩) hHeld ?_
        rotate_left
        · intro w' hSw
          (try dsimp only at hSw)
          obtain ⟨hS1, hS2, hS3⟩ := hSw
          clear hS2
          simp only [List.getElem_toArray, List.getElem_cons_zero, List.getElem_cons_succ]
          go_simp
          all_goals (try with_reducible rfl)
        try simp only [Act.put, List.setIfInBounds_toArray, List.set_cons_zero, List.set_cons_succ, List.getElem_toArray, List.getElem_cons_zero, List.getElem_cons_succ]
        refine wpAnyH_take (i := 15) (v := ?_) (by rfl) (by kernel_rfl) (by kernel_rfl) (by kernel_rfl) (fun _ _ _ h => h) (Or.inl ⟨by rfl, ?_⟩) hHeld ?_
        rotate_left
        · intro w' hSw
          (try dsimp only at hSw)
          obtain ⟨hS1, hS2, hS3⟩ := hSw
          clear hS2
          simp only [List.getElem_toArray, List.getElem_cons_zero, List.getElem_cons_succ]
          go_simp
          all_goals (try with_reducible rfl)
        try simp only [Act.put, List.setIfInBounds_toArray, List.set_cons_zero, List.set_cons_succ, List.getElem_toArray, List.getElem_cons_zero, List.getElem_cons_succ]
        refine wpAnyH_take (i := 16) (v := ?_) (by rfl) (by kernel_rfl) (by kernel_rfl) (by kernel_rfl) (fun _ _ _ h => h) (Or.inl ⟨by rfl, ?_⟩) hHeld ?_
        rotate_left
        · intro w' hSw
          (try dsimp only at hSw)
          obtain ⟨hS1, hS2, hS3⟩ := hSw
          clear hS2
          simp only [List.getElem_toArray, List.getElem_cons_zero, List.getElem_cons_succ]
          go_simp
          all_goals (try with_reducible rfl)
        try simp only [Act.put, List.setIfInBounds_toArray, List.set_cons_zero, List.set_cons_succ, List.getElem_toArray, List.getElem_cons_zero, List.getElem_cons_succ]
        refine wpAnyH_ready (rs := [17]) (by kernel_rfl) (by simp) ?_
        refine AllReadyH.cons (by rfl) (fun K hK => ?_) AllReadyH.nil
        simp only [List.getElem_toArray, List.getElem_cons_zero, List.getElem_cons_succ]
        go_simp
        refine (KT.out).mono ?_
        rintro e w3 ⟨q', rfl, YL⟩
        have qb := YL.below
        have ht : TwinA w3 q' r.s := YL.at mem0
        have hq' : w2.drew.heap.size ≤ q' := YL.own _ mem0
        have V3 := VV.out.drew.keep qb
        have C2 := veil (VSF.out _ V3.below)
        have T3 := veil (V3.store (by rw [HL.out]; exact hlt) ⟨rk, rg, some ⟨q', 0, none⟩, rn, rn + 4⟩ H16.out)
        have V4 := V3.put ⟨rk, rg, some ⟨q', 0, none⟩, rn, rn + 4⟩ H16.out
        have hx4 : (ls2.set i ⟨rk, rg, some ⟨q', 0, none⟩, rn, rn + 4⟩)[i]? = some ⟨rk, rg, some ⟨q', 0, none⟩, rn, rn + 4⟩ := by rw [List.getElem?_set_self]; rw [V3.len, HL.out]; exact hlt
        have ht4 := row_setRow_far ht (rvs (ls2.set i ⟨rk, rg, some ⟨q', 0, none⟩, rn, rn + 4⟩)).toArray (row_ne ht V3.row (by decide))
        generalize w3.setRow g (rvs (ls2.set i ⟨rk, rg, some ⟨q', 0, none⟩, rn, rn + 4⟩)).toArray = w4 at T3 V4 ht4
        generalize ls2.set i ⟨rk, rg, some ⟨q', 0, none⟩, rn, rn + 4⟩ = ls4 at V4 hx4
        have hx5 : ls4[i]? = some ⟨r.k, r.g, some ⟨q', 0, none⟩, r.s.length, r.s.length + 4⟩ := by rw [hx4, HK.out, HG.out, HN.out]
        have V5 := veil (V4.next HO.out hx5 ht4 (Nat.le_trans VV.out.below.size hq'))
        have C3 := veil (VSF.out _ V4.below)
        clear V3 V4 hx4 ht4 hx5 hq' ht qb YL
        (try dsimp only)
        refine hK.out _ _ C2.out (fun hHeld => ?_)
        clear hK K
        try simp only [Act.put, List.setIfInBounds_toArray, List.set_cons_zero, List.set_cons_succ, List.getElem_toArray, List.getElem_cons_zero, List.getElem_cons_succ]
        refine wpAnyH_take (i := 18) (v := _) (by rfl) (by kernel_rfl) (by kernel_rfl) (by kernel_rfl) (fun _ _ _ h => h) (yieldsIf_build (by rfl) _ #[(0, .tmp 29), (1, .tmp 34), (2, .tmp 40)] rfl #[(0, .int .u8 rk), (1, av rg), (2, .slice (some ⟨q', 0, none⟩) rn (rn + 4))] (by simp [Act.eval]) (fun u => made_rec H16.out rk _ rn (rn + 4) u)) hHeld ?_
        try simp only [Act.put, List.setIfInBounds_toArray, List.set_cons_zero, List.set_cons_succ, List.getElem_toArray, List.getElem_cons_zero, List.getElem_cons_succ]
        refine wpAnyH_take (i := 19) (v := ?_) (by rfl) (by kernel_rfl) (by kernel_rfl) (by kernel_rfl) (fun _ _ _ h => h) (Or.inl ⟨by rfl, ?_⟩) hHeld ?_
        rotate_left
        · intro w' hSw
          (try dsimp only at hSw)
          obtain ⟨hS1, hS2, hS3⟩ := hSw
          clear hS2
          simp only [List.getElem_toArray, List.getElem_cons_zero, List.getElem_cons_succ]
          go_simp
          all_goals (try with_reducible rfl)
        try simp only [Act.put, List.setIfInBounds_toArray, List.set_cons_zero, List.set_cons_succ, List.getElem_toArray, List.getElem_cons_zero, List.getElem_cons_succ]
        refine wpAnyH_ready (rs := [20]) (by kernel_rfl) (by simp) ?_
        refine AllReadyH.cons (by rfl) (fun K hK => ?_) AllReadyH.nil
        simp only [List.getElem_toArray, List.getElem_cons_zero, List.getElem_cons_succ]
        refine wp_store_of (.tmp 42) (.tmp 41) rfl rfl rfl T3.out ?_
        (try dsimp only)
        refine hK.out _ _ C3.out (fun hHeld => ?_)
        clear hK K
        try simp only [Act.put, List.setIfInBounds_toArray, List.set_cons_zero, List.set_cons_succ, List.getElem_toArray, List.getElem_cons_zero, List.getElem_cons_succ]
        refine wpAnyH_done (by kernel_rfl) ?_ _
        refine NoPanic.normal ?_
        clear hHeld
        clear C0 C2 C3 T3 KT VSF
        go_wp2_with fail
        go_roundw
        case rel => exact ⟨i + 1, _, by omega, by go_num, V5⟩
        case measure => simp [intOf]; omega
      · have ijn : ¬ (i : Int) < (n : Int) := by omega
        have V5 := veil (V1.more (by rw [HL.out]; omega) hi1)
        clear V1 hi1
        go_wp2_with (refine wpList_store_of rfl _ _ rfl rfl rfl T1.out ?_)
        go_roundw
        case rel => exact ⟨i + 1, _, by omega, by go_num, V5⟩
        case measure => simp [intOf]; omega
    · obtain rfl : i = n + 4 := by omega
      have ij : ¬ ((n + 4 : Nat) : Int) < (n : Int) + 4 := by omega
      go_wp2_with fail
      go_ret
      exact ⟨g, rfl, ls, VR.out⟩

theorem rcS_of {w : World} {b : Addr} {r : Rc} (X : RcAt w b r) : ∃ B c, ReadsA w B r.s ∧ ∀ u, Below w.heap.size w u → RcS u b r.k r.g B r.s.length c := by
  obtain ⟨B, c, xs, xr⟩ := X.srcs
  refine ⟨B, c, xr, fun u hu => ⟨(X.keep hu).kind, (X.keep hu).grp, ?_⟩⟩
  unfold World.cell? at xs ⊢
  have hlt : b.block < w.heap.size := by
    cases hb : w.heap[b.block]? with
    | none => simp [hb] at xs
    | some o => exact (Array.getElem?_eq_some_iff.1 hb).1
  rw [hu.block _ hlt]
  exact xs

set_option linter.unusedSimpArgs false in
set_option maxHeartbeats 8000000 in
theorem sameRecords_true (A B : Option Addr) (n c d : Nat) (rs : List Rc) (w : World) (hl : rs.length = n) (hn : n ≤ 1000000) (ha : ReadsR w A rs) (hb : ReadsR w B rs) (hz : ∀ r ∈ rs, r.s.length ≤ 900000) :
    Calls Tryd.prog 53 #[.slice A n c, .slice B n d] w fun e w' => e = .returned (.bool true) ∧ Below w.heap.size w w' := by
  have HA := veil ha
  have HB := veil hb
  have HL := veil hl
  have HZ := veil hz
  have in16 : (n : Int) ≤ 1000000 := by omega
  clear ha hb hl hz
  go_enter Tryd.func53, Tryd.ntmps53
  go_wp2_with fail
  go_loopw [5] (fun s5 wr => ∃ i : Nat, i ≤ n ∧ s5 = .int .i64 i ∧ Hid (Below w.heap.size w wr)) (fun s5 _ => n - (intOf s5).toNat)
  case atStart => exact ⟨0, Nat.zero_le _, rfl, veil (Below.refl _ _)⟩
  case round =>
    rename World => wr
    obtain ⟨i, hi, rfl, VR⟩ := hrel
    by_cases hlt : i < n
    · have ij : (i : Int) < (n : Int) := by omega
      obtain ⟨r, ho⟩ : ∃ r, rs[i]? = some r := ⟨_, List.getElem?_eq_getElem (by rw [HL.out]; exact hlt)⟩
      obtain ⟨a, rfl, X⟩ := HA.out i r ho
      obtain ⟨b, rfl, Y⟩ := HB.out i r ho
      have H16 := veil X.len
      obtain ⟨A1, c1, x2, x1⟩ := rcS_of X
      obtain ⟨B1, d1, y2, y1⟩ := rcS_of Y
      have KS := veil (fun u (hu : Below w.heap.size w u) => sameA_true A1 B1 r.s.length c1 d1 r.s u rfl (Nat.le_trans (HZ.out r (List.mem_of_getElem? ho)) (by omega)) (x2.keep hu) (y2.keep hu))
      have SFA := veil x1
      have SFB := veil y1
      have N1 : ∀ u, (binOp .neq 23 (.agg (bv r.g).toArray) (.agg (bv r.g).toArray)).run Tryd.prog u = .ok (.bool false) u := fun u => by simpa using arr_neq (t := 23) Tryd.underlying23 u H16.out H16.out (z := true) (by simp)
      clear X Y x1 x2 y1 y2 ho
      generalize r.s.length = rn at *
      generalize r.k = rk at *
      generalize r.g = rg at *
      go_wp2_with fail
      have VR := veil (still_below VR.out)
      have C0 := veil (And.intro (SFA.out _ VR.out) (SFB.out _ VR.out))
      refine wp_region_noPanic ?_
      refine wp_region_held_drew (S := (fun w' => RcS w' (a.add (i * 18)) rk rg A1 rn c1 ∧ RcS w' (b.add (i * 18)) rk rg B1 rn d1)) (by kernel_rfl) C0.out (fun hHeld => ?_)
      refine wpAnyH_take (i := 0) (v := ?_) (by rfl) (by kernel_rfl) (by kernel_rfl) (by kernel_rfl) (fun _ _ _ h => h) (Or.inl ⟨by rfl, ?_⟩) hHeld ?_
      rotate_left
      · intro w' hSw
        (try dsimp only at hSw)
        obtain ⟨⟨hS1, hS2, hS3⟩, hS4, hS5, hS6⟩ := hSw
        clear hS2 hS5
        simp only [List.getElem_toArray, List.getElem_cons_zero, List.getElem_cons_succ]
        go_simp
        all_goals (try with_reducible rfl)
      try simp only [Act.put, List.setIfInBounds_toArray, List.set_cons_zero, List.set_cons_succ, List.getElem_toArray, List.getElem_cons_zero, List.getElem_cons_succ]
      refine wpAnyH_take (i := 1) (v := ?_) (by rfl) (by kernel_rfl) (by kernel_rfl) (by kernel_rfl) (fun _ _ _ h => h) (Or.inl ⟨by rfl, ?_⟩) hHeld ?_
      rotate_left
      · intro w' hSw
        (try dsimp only at hSw)
        obtain ⟨⟨hS1, hS2, hS3⟩, hS4, hS5, hS6⟩ := hSw
        clear hS2 hS5
        simp only [List.getElem_toArray, List.getElem_cons_zero, List.getElem_cons_succ]
        go_simp
        all_goals (try with_reducible rfl)
      try simp only [Act.put, List.setIfInBounds_toArray, List.set_cons_zero, List.set_cons_succ, List.getElem_toArray, List.getElem_cons_zero, List.getElem_cons_succ]
      refine wpAnyH_take (i := 2) (v := ?_) (by rfl) (by kernel_rfl) (by kernel_rfl) (by kernel_rfl) (fun _ _ _ h => h) (Or.inl ⟨by rfl, ?_⟩) hHeld ?_
      rotate_left
      · intro w' hSw
        (try dsimp only at hSw)
        obtain ⟨⟨hS1, hS2, hS3⟩, hS4, hS5, hS6⟩ := hSw
        clear hS2 hS5
        simp only [List.getElem_toArray, List.getElem_cons_zero, List.getElem_cons_succ]
        go_simp
        all_goals (try with_reducible rfl)
      try simp only [Act.put, List.setIfInBounds_toArray, List.set_cons_zero, List.set_cons_succ, List.getElem_toArray, List.getElem_cons_zero, List.getElem_cons_succ]
      refine wpAnyH_take (i := 3) (v := ?_) (by rfl) (by kernel_rfl) (by kernel_rfl) (by kernel_rfl) (fun _ _ _ h => h) (Or.inl ⟨by rfl, ?_⟩) hHeld ?_
      rotate_left
      · intro w' hSw
        (try dsimp only at hSw)
        obtain ⟨⟨hS1, hS2, hS3⟩, hS4, hS5, hS6⟩ := hSw
        clear hS2 hS5
        simp only [List.getElem_toArray, List.getElem_cons_zero, List.getElem_cons_succ]
        go_simp
        all_goals (try with_reducible rfl)
      try simp only [Act.put, List.setIfInBounds_toArray, List.set_cons_zero, List.set_cons_succ, List.getElem_toArray, List.getElem_cons_zero, List.getElem_cons_succ]
      refine wpAnyH_take (i := 4) (v := ?_) (by rfl) (by kernel_rfl) (by kernel_rfl) (by kernel_rfl) (fun _ _ _ h => h) (Or.inl ⟨by rfl, ?_⟩) hHeld ?_
      rotate_left
      · intro w' hSw
        (try dsimp only at hSw)
        obtain ⟨⟨hS1, hS2, hS3⟩, hS4, hS5, hS6⟩ := hSw
        clear hS2 hS5
        simp only [List.getElem_toArray, List.getElem_cons_zero, List.getElem_cons_succ]
        go_simp
        all_goals (try with_reducible rfl)
      try simp only [Act.put, List.setIfInBounds_toArray, List.set_cons_zero, List.set_cons_succ, List.getElem_toArray, List.getElem_cons_zero, List.getElem_cons_succ]
      refine wpAnyH_take (i := 5) (v := ?_) (by rfl) (by kernel_rfl) (by kernel_rfl) (by kernel_rfl) (fun _ _ _ h => h) (Or.inl ⟨by rfl, ?_⟩) hHeld ?_
      rotate_left
      · intro w' hSw
        (try dsimp only at hSw)
        obtain ⟨⟨hS1, hS2, hS3⟩, hS4, hS5, hS6⟩ := hSw
        clear hS2 hS5
        simp only [List.getElem_toArray, List.getElem_cons_zero, List.getElem_cons_succ]
        go_simp
        all_goals (try with_reducible rfl)
      try simp only [Act.put, List.setIfInBounds_toArray, List.set_cons_zero, List.set_cons_succ, List.getElem_toArray, List.getElem_cons_zero, List.getElem_cons_succ]
      refine wpAnyH_take (i := 6) (v := ?_) (by rfl) (by kernel_rfl) (by kernel_rfl) (by kernel_rfl) (fun _ _ _ h => h) (Or.inl ⟨by rfl, ?_⟩) hHeld ?_
      rotate_left
      · intro w' hSw
        (try dsimp only at hSw)
        obtain ⟨⟨hS1, hS2, hS3⟩, hS4, hS5, hS6⟩ := hSw
        clear hS2 hS5
        simp only [List.getElem_toArray, List.getElem_cons_zero, List.getElem_cons_succ]
        go_simp
        all_goals (try with_reducible rfl)
      try simp only [Act.put, List.setIfInBounds_toArray, List.set_cons_zero, List.set_cons_succ, List.getElem_toArray, List.getElem_cons_zero, List.getElem_cons_succ]
      refine wpAnyH_take (i := 7) (v := ?_) (by rfl) (by kernel_rfl) (by kernel_rfl) (by kernel_rfl) (fun _ _ _ h => h) (Or.inl ⟨by rfl, ?_⟩) hHeld ?_
      rotate_left
      · intro w' hSw
        (try dsimp only at hSw)
        obtain ⟨⟨hS1, hS2, hS3⟩, hS4, hS5, hS6⟩ := hSw
        clear hS2 hS5
        simp only [List.getElem_toArray, List.getElem_cons_zero, List.getElem_cons_succ]
        go_simp
        all_goals (try with_reducible rfl)
      try simp only [Act.put, List.setIfInBounds_toArray, List.set_cons_zero, List.set_cons_succ, List.getElem_toArray, List.getElem_cons_zero, List.getElem_cons_succ]
      refine wpAnyH_take (i := 8) (v := ?_) (by rfl) (by kernel_rfl) (by kernel_rfl) (by kernel_rfl) (fun _ _ _ h => h) (Or.inl ⟨by rfl, ?_⟩) hHeld ?_
      rotate_left
      · intro w' hSw
        (try dsimp only at hSw)
        obtain ⟨⟨hS1, hS2, hS3⟩, hS4, hS5, hS6⟩ := hSw
        clear hS2 hS5
        simp only [List.getElem_toArray, List.getElem_cons_zero, List.getElem_cons_succ]
        go_simp
        all_goals (try with_reducible rfl)
      try simp only [Act.put, List.setIfInBounds_toArray, List.set_cons_zero, List.set_cons_succ, List.getElem_toArray, List.getElem_cons_zero, List.getElem_cons_succ]
      refine wpAnyH_take (i := 9) (v := ?_) (by rfl) (by kernel_rfl) (by kernel_rfl) (by kernel_rfl) (fun _ _ _ h => h) (Or.inl ⟨by rfl, ?_⟩) hHeld ?_
      rotate_left
      · intro w' hSw
        (try dsimp only at hSw)
        obtain ⟨⟨hS1, hS2, hS3⟩, hS4, hS5, hS6⟩ := hSw
        clear hS2 hS5
        simp only [List.getElem_toArray, List.getElem_cons_zero, List.getElem_cons_succ]
        go_simp
        all_goals (try with_reducible rfl)
      try simp only [Act.put, List.setIfInBounds_toArray, List.set_cons_zero, List.set_cons_succ, List.getElem_toArray, List.getElem_cons_zero, List.getElem_cons_succ]
      refine wpAnyH_take (i := 10) (v := ?_) (by rfl) (by kernel_rfl) (by kernel_rfl) (by kernel_rfl) (fun _ _ _ h => h) (Or.inl ⟨by rfl, ?_⟩) hHeld ?_
      rotate_left
      · intro w' hSw
        (try dsimp only at hSw)
        obtain ⟨⟨hS1, hS2, hS3⟩, hS4, hS5, hS6⟩ := hSw
        clear hS2 hS5
        simp only [List.getElem_toArray, List.getElem_cons_zero, List.getElem_cons_succ]
        go_simp
        all_goals (try with_reducible rfl)
      try simp only [Act.put, List.setIfInBounds_toArray, List.set_cons_zero, List.set_cons_succ, List.getElem_toArray, List.getElem_cons_zero, List.getElem_cons_succ]
      refine wpAnyH_take (i := 11) (v := ?_) (by rfl) (by kernel_rfl) (by kernel_rfl) (by kernel_rfl) (fun _ _ _ h => h) (Or.inl ⟨by rfl, ?_⟩) hHeld ?_
      rotate_left
      · intro w' hSw
        (try dsimp only at hSw)
        obtain ⟨⟨hS1, hS2, hS3⟩, hS4, hS5, hS6⟩ := hSw
        clear hS2 hS5
        simp only [List.getElem_toArray, List.getElem_cons_zero, List.getElem_cons_succ]
        go_simp
        all_goals (try with_reducible rfl)
      try simp only [Act.put, List.setIfInBounds_toArray, List.set_cons_zero, List.set_cons_succ, List.getElem_toArray, List.getElem_cons_zero, List.getElem_cons_succ]
      refine wpAnyH_take (i := 12) (v := ?_) (by rfl) (by kernel_rfl) (by kernel_rfl) (by kernel_rfl) (fun _ _ _ h => h) (Or.inl ⟨by rfl, ?_⟩) hHeld ?_
      rotate_left
      · intro w' hSw
        (try dsimp only at hSw)
        obtain ⟨⟨hS1, hS2, hS3⟩, hS4, hS5, hS6⟩ := hSw
        clear hS2 hS5
        simp only [List.getElem_toArray, List.getElem_cons_zero, List.getElem_cons_succ]
        go_simp
        all_goals (try with_reducible rfl)
      try simp only [Act.put, List.setIfInBounds_toArray, List.set_cons_zero, List.set_cons_succ, List.getElem_toArray, List.getElem_cons_zero, List.getElem_cons_succ]
      refine wpAnyH_take (i := 13) (v := ?_) (by rfl) (by kernel_rfl) (by kernel_rfl) (by kernel_rfl) (fun _ _ _ h => h) (Or.inl ⟨by rfl, ?_⟩) hHeld ?_
      rotate_left
      · intro w' hSw
        (try dsimp only at hSw)
        obtain ⟨⟨hS1, hS2, hS3⟩, hS4, hS5, hS6⟩ := hSw
        clear hS2 hS5
        simp only [List.getElem_toArray, List.getElem_cons_zero, List.getElem_cons_succ]
        go_simp
        all_goals (try with_reducible rfl)
      try simp only [Act.put, List.setIfInBounds_toArray, List.set_cons_zero, List.set_cons_succ, List.getElem_toArray, List.getElem_cons_zero, List.getElem_cons_succ]
      refine wpAnyH_take (i := 14) (v := ?_) (by rfl) (by kernel_rfl) (by kernel_rfl) (by kernel_rfl) (fun _ _ _ h => h) (Or.inl ⟨by rfl, ?_⟩) hHeld ?_
      rotate_left
      · intro w' hSw
        (try dsimp only at hSw)
        obtain ⟨⟨hS1, hS2, hS3⟩, hS4, hS5, hS6⟩ := hSw
        clear hS2 hS5
        simp only [List.getElem_toArray, List.getElem_cons_zero, List.getElem_cons_succ]
        go_simp
        all_goals (try with_reducible rfl)
      try simp only [Act.put, List.setIfInBounds_toArray, List.set_cons_zero, List.set_cons_succ, List.getElem_toArray, List.getElem_cons_zero, List.getElem_cons_succ]
      refine wpAnyH_take (i := 15) (v := ?_) (by rfl) (by kernel_rfl) (by kernel_rfl) (by kernel_rfl) (fun _ _ _ h => h) (Or.inl ⟨by rfl, ?_⟩) hHeld ?_
      rotate_left
      · intro w' hSw
        (try dsimp only at hSw)
        obtain ⟨⟨hS1, hS2, hS3⟩, hS4, hS5, hS6⟩ := hSw
        clear hS2 hS5
        simp only [List.getElem_toArray, List.getElem_cons_zero, List.getElem_cons_succ]
        go_simp
        all_goals (try with_reducible rfl)
      try simp only [Act.put, List.setIfInBounds_toArray, List.set_cons_zero, List.set_cons_succ, List.getElem_toArray, List.getElem_cons_zero, List.getElem_cons_succ]
      refine wpAnyH_take (i := 16) (v := _) (by rfl) (by kernel_rfl) (by kernel_rfl) (by kernel_rfl) (fun _ _ _ h => h) (yieldsIf_load_of (by rfl) _ _ rfl _ rfl (fun u h => load_addr h.1.2.1 H16.out)) hHeld ?_
      try simp only [Act.put, List.setIfInBounds_toArray, List.set_cons_zero, List.set_cons_succ, List.getElem_toArray, List.getElem_cons_zero, List.getElem_cons_succ]
      refine wpAnyH_take (i := 17) (v := ?_) (by rfl) (by kernel_rfl) (by kernel_rfl) (by kernel_rfl) (fun _ _ _ h => h) (Or.inl ⟨by rfl, ?_⟩) hHeld ?_
      rotate_left
      · intro w' hSw
        (try dsimp only at hSw)
        obtain ⟨⟨hS1, hS2, hS3⟩, hS4, hS5, hS6⟩ := hSw
        clear hS2 hS5
        simp only [List.getElem_toArray, List.getElem_cons_zero, List.getElem_cons_succ]
        go_simp
        all_goals (try with_reducible rfl)
      try simp only [Act.put, List.setIfInBounds_toArray, List.set_cons_zero, List.set_cons_succ, List.getElem_toArray, List.getElem_cons_zero, List.getElem_cons_succ]
      refine wpAnyH_take (i := 18) (v := ?_) (by rfl) (by kernel_rfl) (by kernel_rfl) (by kernel_rfl) (fun _ _ _ h => h) (Or.inl ⟨by rfl, ?_⟩) hHeld ?_
      rotate_left
      · intro w' hSw
        (try dsimp only at hSw)
        obtain ⟨⟨hS1, hS2, hS3⟩, hS4, hS5, hS6⟩ := hSw
        clear hS2 hS5
        simp only [List.getElem_toArray, List.getElem_cons_zero, List.getElem_cons_succ]
        go_simp
        all_goals (try with_reducible rfl)
      try simp only [Act.put, List.setIfInBounds_toArray, List.set_cons_zero, List.set_cons_succ, List.getElem_toArray, List.getElem_cons_zero, List.getElem_cons_succ]
      refine wpAnyH_take (i := 19) (v := ?_) (by rfl) (by kernel_rfl) (by kernel_rfl) (by kernel_rfl) (fun _ _ _ h => h) (Or.inl ⟨by rfl, ?_⟩) hHeld ?_
      rotate_left
      · intro w' hSw
        (try dsimp only at hSw)
        obtain ⟨⟨hS1, hS2, hS3⟩, hS4, hS5, hS6⟩ := hSw
        clear hS2 hS5
        simp only [List.getElem_toArray, List.getElem_cons_zero, List.getElem_cons_succ]
        go_simp
        all_goals (try with_reducible rfl)
      try simp only [Act.put, List.setIfInBounds_toArray, List.set_cons_zero, List.set_cons_succ, List.getElem_toArray, List.getElem_cons_zero, List.getElem_cons_succ]
      refine wpAnyH_take (i := 20) (v := ?_) (by rfl) (by kernel_rfl) (by kernel_rfl) (by kernel_rfl) (fun _ _ _ h => h) (Or.inl ⟨by rfl, ?_⟩) hHeld ?_
      rotate_left
      · intro w' hSw
        (try dsimp only at hSw)
        obtain ⟨⟨hS1, hS2, hS3⟩, hS4, hS5, hS6⟩ := hSw
        clear hS2 hS5
        simp only [List.getElem_toArray, List.getElem_cons_zero, List.getElem_cons_succ]
        go_simp
        all_goals (try with_reducible rfl)
      try simp only [Act.put, List.setIfInBounds_toArray, List.set_cons_zero, List.set_cons_succ, List.getElem_toArray, List.getElem_cons_zero, List.getElem_cons_succ]
      refine wpAnyH_take (i := 21) (v := _) (by rfl) (by kernel_rfl) (by kernel_rfl) (by kernel_rfl) (fun _ _ _ h => h) (yieldsIf_load_of (by rfl) _ _ rfl _ rfl (fun u h => load_addr h.2.2.1 H16.out)) hHeld ?_
      try simp only [Act.put, List.setIfInBounds_toArray, List.set_cons_zero, List.set_cons_succ, List.getElem_toArray, List.getElem_cons_zero, List.getElem_cons_succ]
      refine wpAnyH_take (i := 22) (v := ?_) (by rfl) (by kernel_rfl) (by kernel_rfl) (by kernel_rfl) (fun _ _ _ h => h) (Or.inl ⟨by rfl, ?_⟩) hHeld ?_
      rotate_left
      · intro w' hSw
        (try dsimp only at hSw)
        obtain ⟨⟨hS1, hS2, hS3⟩, hS4, hS5, hS6⟩ := hSw
        clear hS2 hS5
        simp only [List.getElem_toArray, List.getElem_cons_zero, List.getElem_cons_succ]
        go_simp
        all_goals (try with_reducible rfl)
      try simp only [Act.put, List.setIfInBounds_toArray, List.set_cons_zero, List.set_cons_succ, List.getElem_toArray, List.getElem_cons_zero, List.getElem_cons_succ]
      refine wpAnyH_take (i := 23) (v := ?_) (by rfl) (by kernel_rfl) (by kernel_rfl) (by kernel_rfl) (fun _ _ _ h => h) (Or.inl ⟨by rfl, ?_⟩) hHeld ?_
      rotate_left
      · intro w' hSw
        (try dsimp only at hSw)
        obtain ⟨⟨hS1, hS2, hS3⟩, hS4, hS5, hS6⟩ := hSw
        clear hS2 hS5
        simp only [List.getElem_toArray, List.getElem_cons_zero, List.getElem_cons_succ]
        go_simp
        all_goals (try with_reducible rfl)
      try simp only [Act.put, List.setIfInBounds_toArray, List.set_cons_zero, List.set_cons_succ, List.getElem_toArray, List.getElem_cons_zero, List.getElem_cons_succ]
      refine wpAnyH_take (i := 24) (v := ?_) (by rfl) (by kernel_rfl) (by kernel_rfl) (by kernel_rfl) (fun _ _ _ h => h) (Or.inl ⟨by rfl, ?_⟩) hHeld ?_
      rotate_left
      · intro w' hSw
        (try dsimp only at hSw)
        obtain ⟨⟨hS1, hS2, hS3⟩, hS4, hS5, hS6⟩ := hSw
        clear hS2 hS5
        simp only [List.getElem_toArray, List.getElem_cons_zero, List.getElem_cons_succ]
        go_simp
        all_goals (try with_reducible rfl)
      try simp only [Act.put, List.setIfInBounds_toArray, List.set_cons_zero, List.set_cons_succ, List.getElem_toArray, List.getElem_cons_zero, List.getElem_cons_succ]
      refine wpAnyH_take (i := 25) (v := ?_) (by rfl) (by kernel_rfl) (by kernel_rfl) (by kernel_rfl) (fun _ _ _ h => h) (Or.inl ⟨by rfl, ?_⟩) hHeld ?_
      rotate_left
      · intro w' hSw
        (try dsimp only at hSw)
        obtain ⟨⟨hS1, hS2, hS3⟩, hS4, hS5, hS6⟩ := hSw
        clear hS2 hS5
        simp only [List.getElem_toArray, List.getElem_cons_zero, List.getElem_cons_succ]
        go_simp
        all_goals (try with_reducible rfl)
      try simp only [Act.put, List.setIfInBounds_toArray, List.set_cons_zero, List.set_cons_succ, List.getElem_toArray, List.getElem_cons_zero, List.getElem_cons_succ]
      refine wpAnyH_take (i := 26) (v := ?_) (by rfl) (by kernel_rfl) (by kernel_rfl) (by kernel_rfl) (fun _ _ _ h => h) (Or.inl ⟨by rfl, ?_⟩) hHeld ?_
      rotate_left
      · intro w' hSw
        (try dsimp only at hSw)
        obtain ⟨⟨hS1, hS2, hS3⟩, hS4, hS5, hS6⟩ := hSw
        clear hS2 hS5
        simp only [List.getElem_toArray, List.getElem_cons_zero, List.getElem_cons_succ]
        go_simp
        all_goals (try with_reducible rfl)
      try simp only [Act.put, List.setIfInBounds_toArray, List.set_cons_zero, List.set_cons_succ, List.getElem_toArray, List.getElem_cons_zero, List.getElem_cons_succ]
      refine wpAnyH_take (i := 27) (v := ?_) (by rfl) (by kernel_rfl) (by kernel_rfl) (by kernel_rfl) (fun _ _ _ h => h) (Or.inl ⟨by rfl, ?_⟩) hHeld ?_
      rotate_left
      · intro w' hSw
        (try dsimp only at hSw)
        obtain ⟨⟨hS1, hS2, hS3⟩, hS4, hS5, hS6⟩ := hSw
        clear hS2 hS5
        simp only [List.getElem_toArray, List.getElem_cons_zero, List.getElem_cons_succ]
        go_simp
        all_goals (try with_reducible rfl)
      try simp only [Act.put, List.setIfInBounds_toArray, List.set_cons_zero, List.set_cons_succ, List.getElem_toArray, List.getElem_cons_zero, List.getElem_cons_succ]
      refine wpAnyH_take (i := 28) (v := ?_) (by rfl) (by kernel_rfl) (by kernel_rfl) (by kernel_rfl) (fun _ _ _ h => h) (Or.inl ⟨by rfl, ?_⟩) hHeld ?_
      rotate_left
      · intro w' hSw
        (try dsimp only at hSw)
        obtain ⟨⟨hS1, hS2, hS3⟩, hS4, hS5, hS6⟩ := hSw
        clear hS2 hS5
        simp only [List.getElem_toArray, List.getElem_cons_zero, List.getElem_cons_succ]
        go_simp
        all_goals (try with_reducible rfl)
      try simp only [Act.put, List.setIfInBounds_toArray, List.set_cons_zero, List.set_cons_succ, List.getElem_toArray, List.getElem_cons_zero, List.getElem_cons_succ]
      refine wpAnyH_take (i := 29) (v := ?_) (by rfl) (by kernel_rfl) (by kernel_rfl) (by kernel_rfl) (fun _ _ _ h => h) (Or.inl ⟨by rfl, ?_⟩) hHeld ?_
      rotate_left
      · intro w' hSw
        (try dsimp only at hSw)
        obtain ⟨⟨hS1, hS2, hS3⟩, hS4, hS5, hS6⟩ := hSw
        clear hS2 hS5
        simp only [List.getElem_toArray, List.getElem_cons_zero, List.getElem_cons_succ]
        go_simp
        all_goals (try with_reducible rfl)
      try simp only [Act.put, List.setIfInBounds_toArray, List.set_cons_zero, List.set_cons_succ, List.getElem_toArray, List.getElem_cons_zero, List.getElem_cons_succ]
      refine wpAnyH_take (i := 30) (v := ?_) (by rfl) (by kernel_rfl) (by kernel_rfl) (by kernel_rfl) (fun _ _ _ h => h) (Or.inl ⟨by rfl, ?_⟩) hHeld ?_
      rotate_left
      · intro w' hSw
        (try dsimp only at hSw)
        obtain ⟨⟨hS1, hS2, hS3⟩, hS4, hS5, hS6⟩ := hSw
        clear hS2 hS5
        simp only [List.getElem_toArray, List.getElem_cons_zero, List.getElem_cons_succ]
        go_simp
        all_goals (try with_reducible rfl)
      try simp only [Act.put, List.setIfInBounds_toArray, List.set_cons_zero, List.set_cons_succ, List.getElem_toArray, List.getElem_cons_zero, List.getElem_cons_succ]
      refine wpAnyH_take (i := 31) (v := ?_) (by rfl) (by kernel_rfl) (by kernel_rfl) (by kernel_rfl) (fun _ _ _ h => h) (Or.inl ⟨by rfl, ?_⟩) hHeld ?_
      rotate_left
      · intro w' hSw
        (try dsimp only at hSw)
        obtain ⟨⟨hS1, hS2, hS3⟩, hS4, hS5, hS6⟩ := hSw
        clear hS2 hS5
        simp only [List.getElem_toArray, List.getElem_cons_zero, List.getElem_cons_succ]
        go_simp
        all_goals (try with_reducible rfl)
      try simp only [Act.put, List.setIfInBounds_toArray, List.set_cons_zero, List.set_cons_succ, List.getElem_toArray, List.getElem_cons_zero, List.getElem_cons_succ]
      refine wpAnyH_take (i := 32) (v := ?_) (by rfl) (by kernel_rfl) (by kernel_rfl) (by kernel_rfl) (fun _ _ _ h => h) (Or.inl ⟨by rfl, ?_⟩) hHeld ?_
      rotate_left
      · intro w' hSw
        (try dsimp only at hSw)
        obtain ⟨⟨hS1, hS2, hS3⟩, hS4, hS5, hS6⟩ := hSw
        clear hS2 hS5
        simp only [List.getElem_toArray, List.getElem_cons_zero, List.getElem_cons_succ]
        go_simp
        all_goals (try with_reducible rfl)
      try simp only [Act.put, List.setIfInBounds_toArray, List.set_cons_zero, List.set_cons_succ, List.getElem_toArray, List.getElem_cons_zero, List.getElem_cons_succ]
      refine wpAnyH_take (i := 33) (v := ?_) (by rfl) (by kernel_rfl) (by kernel_rfl) (by kernel_rfl) (fun _ _ _ h => h) (Or.inl ⟨by rfl, ?_⟩) hHeld ?_
      rotate_left
      · intro w' hSw
        (try dsimp only at hSw)
        obtain ⟨⟨hS1, hS2, hS3⟩, hS4, hS5, hS6⟩ := hSw
        clear hS2 hS5
        simp only [List.getElem_toArray, List.getElem_cons_zero, List.getElem_cons_succ]
        go_simp
        all_goals (try with_reducible rfl)
      try simp only [Act.put, List.setIfInBounds_toArray, List.set_cons_zero, List.set_cons_succ, List.getElem_toArray, List.getElem_cons_zero, List.getElem_cons_succ]
      refine wpAnyH_take (i := 34) (v := ?_) (by rfl) (by kernel_rfl) (by kernel_rfl) (by kernel_rfl) (fun _ _ _ h => h) (Or.inl ⟨by rfl, ?_⟩) hHeld ?_
      rotate_left
      · intro w' hSw
        (try dsimp only at hSw)
        obtain ⟨⟨hS1, hS2, hS3⟩, hS4, hS5, hS6⟩ := hSw
        clear hS2 hS5
        simp only [List.getElem_toArray, List.getElem_cons_zero, List.getElem_cons_succ]
        go_simp
        all_goals (try with_reducible rfl)
      try simp only [Act.put, List.setIfInBounds_toArray, List.set_cons_zero, List.set_cons_succ, List.getElem_toArray, List.getElem_cons_zero, List.getElem_cons_succ]
      refine wpAnyH_ready (rs := [35]) (by kernel_rfl) (by simp) ?_
      refine AllReadyH.cons (by rfl) (fun K hK => ?_) AllReadyH.nil
      simp only [List.getElem_toArray, List.getElem_cons_zero, List.getElem_cons_succ]
      go_simp
      refine (KS.out _ VR.out).mono ?_
      rintro e w3 ⟨rfl, q⟩
      have VR := veil (VR.out.trans (q.mono VR.out.size))
      have C1 := veil (And.intro (SFA.out _ VR.out) (SFB.out _ VR.out))
      clear q
      (try dsimp only)
      refine hK.out _ _ C1.out (fun hHeld => ?_)
      clear hK K
      try simp only [Act.put, List.setIfInBounds_toArray, List.set_cons_zero, List.set_cons_succ, List.getElem_toArray, List.getElem_cons_zero, List.getElem_cons_succ]
      refine wpAnyH_take (i := 36) (v := ?_) (by rfl) (by kernel_rfl) (by kernel_rfl) (by kernel_rfl) (fun _ _ _ h => h) (Or.inl ⟨by rfl, ?_⟩) hHeld ?_
      rotate_left
      · intro w' hSw
        (try dsimp only at hSw)
        obtain ⟨⟨hS1, hS2, hS3⟩, hS4, hS5, hS6⟩ := hSw
        clear hS2 hS5
        simp only [List.getElem_toArray, List.getElem_cons_zero, List.getElem_cons_succ]
        go_simp
        all_goals (try with_reducible rfl)
      try simp only [Act.put, List.setIfInBounds_toArray, List.set_cons_zero, List.set_cons_succ, List.getElem_toArray, List.getElem_cons_zero, List.getElem_cons_succ]
      refine wpAnyH_take (i := 37) (v := ?_) (by rfl) (by kernel_rfl) (by kernel_rfl) (by kernel_rfl) (fun _ _ _ h => h) (Or.inl ⟨by rfl, ?_⟩) hHeld ?_
      rotate_left
      · intro w' hSw
        (try dsimp only at hSw)
        obtain ⟨⟨hS1, hS2, hS3⟩, hS4, hS5, hS6⟩ := hSw
        clear hS2 hS5
        simp only [List.getElem_toArray, List.getElem_cons_zero, List.getElem_cons_succ]
        go_simp
        all_goals (try with_reducible rfl)
      try simp only [Act.put, List.setIfInBounds_toArray, List.set_cons_zero, List.set_cons_succ, List.getElem_toArray, List.getElem_cons_zero, List.getElem_cons_succ]
      refine wpAnyH_done (by kernel_rfl) ?_ _
      refine NoPanic.normal ?_
      clear hHeld
      clear C0 C1 KS SFA SFB N1 H16
      go_wp2_with fail
      go_roundw
      case rel => exact ⟨i + 1, by omega, by go_num, VR⟩
      case measure => simp [intOf]; omega
    · obtain rfl : i = n := by omega
      have ij : ¬ (i : Int) < (i : Int) := by omega
      go_wp2_with fail
      go_ret
      exact ⟨by simp, VR.out⟩

set_option linter.unusedSimpArgs false in
set_option maxHeartbeats 8000000 in
theorem leftRecords_true (g : Nat) (ls : List Rl) (B : Option Addr) (n d : Nat) (rs : List Rc) (w0 w : World) (hl : rs.length = n) (hn : n ≤ 1000000) (T : TwinR w0 w g ls rs (n + 4)) (hb : ReadsR w B rs) (hz : ∀ r ∈ rs, r.s.length ≤ 900000) :
    Calls Tryd.prog 35 #[.slice (some ⟨g, 0, none⟩) n (n + 4), .slice B n d] w fun e w' => e = .returned (.bool true) ∧ Below w.heap.size w w' := by
  have h16 : ∀ r ∈ rs, ∀ x ∈ r.s, x.length = 16 := fun r hr x hx => by
    obtain ⟨i, hi⟩ := List.getElem?_of_mem hr
    obtain ⟨_, _, X⟩ := hb i r hi
    obtain ⟨_, _, _, xr⟩ := X.srcs
    obtain ⟨j, hj⟩ := List.getElem?_of_mem hx
    exact (xr j x hj).1
  have SO := veil (sameRecords_true (some ⟨g, 0, none⟩) B n (n + 4) d rs w hl hn (by subst hl; exact T.reads h16) hb hz)
  have HB := veil hb
  have HL := veil hl
  have HZ := veil hz
  have HT := veil T
  have in16 : (n : Int) ≤ 1000000 := by omega
  clear hb hl hz T h16
  go_enter Tryd.func35, Tryd.ntmps35
  go_wp2_with fail
  refine (SO.out).mono ?_
  rintro e w1 ⟨rfl, q1⟩
  have VB := veil q1
  clear SO q1
  go_wp2_with fail
  go_loopw [5] (fun s5 wr => ∃ i : Nat, i ≤ n ∧ s5 = .int .i64 i ∧ Hid (Below w.heap.size w wr)) (fun s5 _ => n - (intOf s5).toNat)
  case atStart => exact ⟨0, Nat.zero_le _, rfl, VB⟩
  case round =>
    rename World => wr
    obtain ⟨i, hi, rfl, VR⟩ := hrel
    clear VB
    by_cases hlt : i < n
    · have ij : (i : Int) < (n : Int) := by omega
      obtain ⟨r, ho⟩ : ∃ r, rs[i]? = some r := ⟨_, List.getElem?_eq_getElem (by rw [HL.out]; exact hlt)⟩
      obtain ⟨b, rfl, X⟩ := HB.out i r ho
      obtain ⟨q, h1, h2, h3⟩ := HT.out.each i r (by omega) ho
      obtain ⟨B1, d1, y2, y1⟩ := rcS_of X
      have c1 := (y1 _ VR.out).2.2
      have c2 : wr.cell? ⟨g, i * 18 + 17, none⟩ = some (.slice (some ⟨q, 0, none⟩) r.s.length (r.s.length + 4)) := ((HT.out.keep VR.out).cells h1).2.2
      have LA : Lay w0 wr [(q, 23, bv (r.s ++ List.replicate 4 oddV).flatten)] := ⟨fun x hx => by
        obtain rfl := List.mem_singleton.1 hx
        exact Row.keep h2 VR.out, fun x hx => by
        obtain rfl := List.mem_singleton.1 hx
        exact h3, by simp, (HT.out.keep VR.out).below⟩
      have K := veil (leftAddrs_true q B1 r.s.length d1 r.s w0 wr.drew _ rfl (HZ.out r (List.mem_of_getElem? ho)) (y2.keep (still_below VR.out)) LA.drew mem0)
      clear X y1 y2 h1 h2 h3 ho LA
      generalize r.s.length = rn at *
      go_wp2_with fail
      go_still_tail 10, (by kernel_rfl)
      change wpList _ _ _ _ _ wr.drew
      have VD := veil (still_below VR.out)
      generalize wr.drew = w2 at *
      clear c1 c2 VR
      go_wp2_with fail
      refine (K.out).mono ?_
      rintro e w3 ⟨rfl, st⟩
      have VE := veil (VD.out.trans (st.mono VD.out.size))
      clear K VD st
      go_wp2_with fail
      go_roundw
      case rel => exact ⟨i + 1, by omega, by go_num, VE⟩
      case measure => simp [intOf]; omega
    · obtain rfl : i = n := by omega
      have ij : ¬ (i : Int) < (i : Int) := by omega
      go_wp2_with fail
      go_loopw [7] (fun s7 wq => ∃ j : Nat, j ≤ 4 ∧ s7 = .int .i64 j ∧ Hid (Below w.heap.size w wq)) (fun s7 _ => 4 - (intOf s7).toNat)
      case atStart => exact ⟨0, Nat.zero_le _, rfl, VR⟩
      case round =>
        rename World => wq
        obtain ⟨j, hj, rfl, VQ⟩ := hrel
        clear VR
        by_cases hlt4 : j < 4
        · have ij4 : (j : Int) < 4 := by omega
          obtain ⟨y1, _, y3⟩ := (HT.out.keep VQ.out).cells (HT.out.room (i + j) (by rw [HL.out]; omega) (by omega))
          have c1 : wq.cell? ⟨g, i * 18 + j * 18, none⟩ = some (.int .u8 201) := by rw [show i * 18 + j * 18 = (i + j) * 18 by omega]; exact y1
          have c2 : wq.cell? ⟨g, i * 18 + j * 18 + 17, none⟩ = some (.slice none 0 0) := by rw [show i * 18 + j * 18 + 17 = (i + j) * 18 + 17 by omega]; exact y3
          clear y1 y3
          go_wp2_with fail
          go_roundw
          case rel => exact ⟨j + 1, by omega, by go_num, VQ⟩
          case measure => simp [intOf]; omega
        · have ij4 : ¬ (j : Int) < 4 := by omega
          go_wp2_with fail
          go_ret
          exact ⟨rfl, VQ.out⟩

end Go.Proofs.YthkiamkhignchaaDoor.Mg
