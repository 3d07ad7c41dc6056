/-
  What a set's At, Cancel, Arm do: of a set that New made, of none, of one that no call made.
  Conditions: at most 256 timers.
-/
import Derived.Test.YtkjgmimfnmilfaaTmrS
namespace Go.Proofs.Ytkjgmimfnmilfaa.Tm5
open Go.RowKit Go.Proofs.Ytkjgmimfnmilfaa.Ops

/-- a key in a block of its own -/
def Kb (w : World) (g : Nat) (k : Tk) : Prop := w.cell? ⟨g, 0, none⟩ = some (.int .u8 k.kd) ∧ w.cell? ⟨g, 1, none⟩ = some (.int .u64 k.id)
theorem kb_new (w : World) (k : Tk) : Kb (w.alloc (.cells #[.int .u8 k.kd, .int .u64 k.id] 33)) w.heap.size k := ⟨(row_new rfl).cell 0, (row_new rfl).cell 1⟩
theorem Kb.keep {w w' : World} {g : Nat} {k : Tk} (h : Kb w g k) (hb : Below w.heap.size w w') : Kb w' g k := ⟨by rw [hb.cell (block_lt_of_cell h.1), h.1], by rw [hb.cell (block_lt_of_cell h.2), h.2]⟩

theorem at_yes {w : World} {s q b : Nat} {A : Option Addr} {n c : Nat} {l : List Tm} (h : Ss w s q b A n c l) (x : Tm) (hk : x.k.ok) (hx : x ∈ l) :
    Calls Try.prog 13 #[.pointer (some ⟨s, 0, none⟩), .agg #[.int .u8 x.k.kd, .int .u64 x.k.id]] w fun e w' => e = .returned (.tuple #[.int .u64 x.t, .bool true]) ∧ Below w.heap.size w w' := by
  obtain ⟨i, hi, rfl⟩ := mem_ix.1 hx
  have hl := h.hq.1.len
  have hlim := h.hq.1.lim
  have H1 := veil (h.keep (below_new w (.cells #[.int .u8 (ix l i).k.kd, .int .u64 (ix l i).k.id] 33)))
  have HB := veil (below_new w (.cells #[.int .u8 (ix l i).k.kd, .int .u64 (ix l i).k.id] 33))
  have HL : Hid (Lies l (ix l i).k (some i)) := ⟨hi, rfl⟩
  have hin : i < n := by omega
  have HI := veil hi
  clear h hx hi hl
  go_enter Try.func13, Try.ntmps13
  go_wp2_with fail
  generalize w.alloc (.cells #[.int .u8 (ix l i).k.kd, .int .u64 (ix l i).k.id] 33) = w1 at *
  refine (find_yes H1.out (ix l i).k hk i HL.out).mono ?_
  rintro e w2 ⟨rfl, h2⟩
  have H2 := veil (H1.out.keep h2)
  have HB2 := veil (HB.out.trans (h2.mono HB.out.size))
  clear h2 H1 HB
  have c0 : w2.cell? ⟨s, 0, none⟩ = some (.pointer (some ⟨q, 0, none⟩)) := H2.out.row.cell 0
  obtain ⟨f, hq, _⟩ := H2.out.hq.1
  obtain ⟨g, rest, rfl, hr, _⟩ := hq.at0 (by omega)
  have c1 : w2.cell? ⟨q, 0, none⟩ = some (.slice (some ⟨g, 0, none⟩) n c) := hq.row.cell 0
  have i2 : w2.cell? ⟨g, i * 3 + 2, none⟩ = some (.int .u64 (ix l i).t) := cell_get hr HI.out 2 (by omega)
  clear hq hr H2
  go_wp2_with fail
  go_ret2
  exact ⟨rfl, HB2.out⟩
theorem at_no {w : World} {s q b : Nat} {A : Option Addr} {n c : Nat} {l : List Tm} (h : Ss w s q b A n c l) (k : Tk) (hk : k.ok) (hx : ∀ y ∈ l, y.k ≠ k) :
    Calls Try.prog 13 #[.pointer (some ⟨s, 0, none⟩), .agg #[.int .u8 k.kd, .int .u64 k.id]] w fun e w' => e = .returned (.tuple #[.int .u64 0, .bool false]) ∧ Below w.heap.size w w' := by
  have H1 := veil (h.keep (below_new w (.cells #[.int .u8 k.kd, .int .u64 k.id] 33)))
  have HB := veil (below_new w (.cells #[.int .u8 k.kd, .int .u64 k.id] 33))
  have HL : Hid (Lies l k none) := hx
  clear h hx
  go_enter Try.func13, Try.ntmps13
  go_wp2_with fail
  generalize w.alloc (.cells #[.int .u8 k.kd, .int .u64 k.id] 33) = w1 at *
  refine (find_no H1.out k hk HL.out).mono ?_
  rintro e w2 ⟨rfl, h2⟩
  have HB2 := veil (HB.out.trans (h2.mono HB.out.size))
  clear h2 H1 HB
  go_wp2_with fail
  go_ret2
  exact ⟨rfl, HB2.out⟩
theorem at_void {w : World} {p : Option Addr} (h : Void w p) (k : Tk) :
    Calls Try.prog 13 #[.pointer p, .agg #[.int .u8 k.kd, .int .u64 k.id]] w fun e w' => e = .returned (.tuple #[.int .u64 0, .bool false]) ∧ Below w.heap.size w w' := by
  have H1 := veil (h.keep (below_new w (.cells #[.int .u8 k.kd, .int .u64 k.id] 33)))
  have HB := veil (below_new w (.cells #[.int .u8 k.kd, .int .u64 k.id] 33))
  clear h
  go_enter Try.func13, Try.ntmps13
  go_wp2_with fail
  generalize w.alloc (.cells #[.int .u8 k.kd, .int .u64 k.id] 33) = w1 at *
  refine (find_void H1.out k).mono ?_
  rintro e w2 ⟨rfl, h2⟩
  have HB2 := veil (HB.out.trans (h2.mono HB.out.size))
  clear h2 H1 HB
  go_wp2_with fail
  go_ret2
  exact ⟨rfl, HB2.out⟩

/-- a set in memory, whatever its queue; F: its blocks -/
def Ts (w : World) (s : Nat) (F : List Nat) (l : List Tm) : Prop := ∃ q b A n c, F = s :: Foot q b A ∧ Ss w s q b A n c l
/-- one step of it: its own blocks may have changed, none of the others -/
def Turn (w w' : World) (s : Nat) (F : List Nat) (l' : List Tm) : Prop := ∃ F', Ts w' s F' l' ∧ Kept F w w' ∧ ∀ z ∈ F', z ∈ F ∨ w.heap.size ≤ z

theorem Ts.keep {w w' : World} {s : Nat} {F : List Nat} {l : List Tm} (h : Ts w s F l) (k : Below w.heap.size w w') : Ts w' s F l := by
  obtain ⟨q, b, A, n, c, e, h⟩ := h
  exact ⟨q, b, A, n, c, e, h.keep k⟩
theorem Ts.kept {w w' : World} {s : Nat} {F G : List Nat} {l : List Tm} (h : Ts w s F l) (k : Kept G w w') (hG : ∀ x ∈ F, x ∉ G) : Ts w' s F l := by
  obtain ⟨q, b, A, n, c, rfl, h⟩ := h
  exact ⟨q, b, A, n, c, rfl, h.kept k (hG s (by simp)) (fun x hx => hG x (by simp [hx]))⟩
theorem Ts.lt {w : World} {s : Nat} {F : List Nat} {l : List Tm} (h : Ts w s F l) : ∀ x ∈ F, x < w.heap.size := by
  obtain ⟨q, b, A, n, c, rfl, h⟩ := h
  intro x hx
  rcases List.mem_cons.1 hx with rfl | hx
  · exact h.row.lt
  · exact h.hq.1.foot x hx
theorem Ts.kn {w : World} {s : Nat} {F : List Nat} {l : List Tm} (h : Ts w s F l) : Kn l := by
  obtain ⟨q, b, A, n, c, rfl, h⟩ := h
  exact h.hq.1.kn
theorem Ts.ok {w : World} {s : Nat} {F : List Nat} {l : List Tm} (h : Ts w s F l) : ∀ x ∈ l, x.ok := by
  obtain ⟨q, b, A, n, c, rfl, h⟩ := h
  obtain ⟨f, hq, _⟩ := h.hq.1
  exact hq.ok
theorem Ts.lim {w : World} {s : Nat} {F : List Nat} {l : List Tm} (h : Ts w s F l) : l.length ≤ 256 := by
  obtain ⟨q, b, A, n, c, rfl, h⟩ := h
  rw [h.hq.1.len]
  exact h.hq.1.lim
theorem Turn.keep {w w1 w2 : World} {s : Nat} {F : List Nat} {l : List Tm} (h : Turn w w1 s F l) (k : Below w1.heap.size w1 w2) : Turn w w2 s F l := by
  obtain ⟨F', h1, h2, h3⟩ := h
  exact ⟨F', h1.keep k, h2.trans' (kept_below k), h3⟩
theorem Turn.after {w w1 w2 : World} {s : Nat} {F : List Nat} {l : List Tm} (h : Turn w1 w2 s F l) (k : Kept F w w1) : Turn w w2 s F l := by
  obtain ⟨F', h1, h2, h3⟩ := h
  exact ⟨F', h1, k.trans' h2, fun z hz => (h3 z hz).imp id (fun q => Nat.le_trans k.size q)⟩
theorem Turn.same {w w1 : World} {s : Nat} {F : List Nat} {l : List Tm} (h : Ts w s F l) (k : Below w.heap.size w w1) : Turn w w1 s F l := ⟨F, h.keep k, kept_below k, fun _ hz => .inl hz⟩

theorem tlen {w : World} {s : Nat} {F : List Nat} {l : List Tm} (h : Ts w s F l) (L : Nat) (hL : l.length = L) : Calls Try.prog 16 #[.pointer (some ⟨s, 0, none⟩)] w fun e w' => e = .returned (.int .i64 L) ∧ w = w' := by
  obtain ⟨q, b, A, n, c, rfl, h⟩ := h
  subst hL
  rw [h.hq.1.len]
  exact len_any h
theorem tat_yes {w : World} {s : Nat} {F : List Nat} {l : List Tm} (h : Ts w s F l) (k : Tk) (hk : k.ok) (t : Int) (hx : (⟨k, t⟩ : Tm) ∈ l) :
    Calls Try.prog 13 #[.pointer (some ⟨s, 0, none⟩), .agg #[.int .u8 k.kd, .int .u64 k.id]] w fun e w' => e = .returned (.tuple #[.int .u64 t, .bool true]) ∧ Below w.heap.size w w' := by
  obtain ⟨q, b, A, n, c, rfl, h⟩ := h
  exact at_yes h ⟨k, t⟩ hk hx
theorem tat_no {w : World} {s : Nat} {F : List Nat} {l : List Tm} (h : Ts w s F l) (k : Tk) (hk : k.ok) (hx : ∀ y ∈ l, y.k ≠ k) :
    Calls Try.prog 13 #[.pointer (some ⟨s, 0, none⟩), .agg #[.int .u8 k.kd, .int .u64 k.id]] w fun e w' => e = .returned (.tuple #[.int .u64 0, .bool false]) ∧ Below w.heap.size w w' := by
  obtain ⟨q, b, A, n, c, rfl, h⟩ := h
  exact at_no h k hk hx

/-! ### Cancel -/
theorem cancel_no {w : World} {s : Nat} {F : List Nat} {l : List Tm} (h : Ts w s F l) (k : Tk) (hk : k.ok) (hx : ∀ y ∈ l, y.k ≠ k) :
    Calls Try.prog 15 #[.pointer (some ⟨s, 0, none⟩), .agg #[.int .u8 k.kd, .int .u64 k.id]] w fun e w' => e = .returned (.bool false) ∧ Below w.heap.size w w' := by
  obtain ⟨q, b, A, n, c, rfl, h⟩ := h
  have H1 := veil (h.keep (below_new w (.cells #[.int .u8 k.kd, .int .u64 k.id] 33)))
  have HB := veil (below_new w (.cells #[.int .u8 k.kd, .int .u64 k.id] 33))
  have HL : Hid (Lies l k none) := hx
  clear h hx
  go_enter Try.func15, Try.ntmps15
  go_wp2_with fail
  generalize w.alloc (.cells #[.int .u8 k.kd, .int .u64 k.id] 33) = w1 at *
  refine (find_no H1.out k hk HL.out).mono ?_
  rintro e w2 ⟨rfl, h2⟩
  have HB2 := veil (HB.out.trans (h2.mono HB.out.size))
  clear h2 H1 HB
  go_wp2_with fail
  go_ret
  exact ⟨rfl, HB2.out⟩
theorem cancel_void {w : World} {p : Option Addr} (h : Void w p) (k : Tk) :
    Calls Try.prog 15 #[.pointer p, .agg #[.int .u8 k.kd, .int .u64 k.id]] w fun e w' => e = .returned (.bool false) ∧ Below w.heap.size w w' := by
  have H1 := veil (h.keep (below_new w (.cells #[.int .u8 k.kd, .int .u64 k.id] 33)))
  have HB := veil (below_new w (.cells #[.int .u8 k.kd, .int .u64 k.id] 33))
  clear h
  go_enter Try.func15, Try.ntmps15
  go_wp2_with fail
  generalize w.alloc (.cells #[.int .u8 k.kd, .int .u64 k.id] 33) = w1 at *
  refine (find_void H1.out k).mono ?_
  rintro e w2 ⟨rfl, h2⟩
  have HB2 := veil (HB.out.trans (h2.mono HB.out.size))
  clear h2 H1 HB
  go_wp2_with fail
  go_ret
  exact ⟨rfl, HB2.out⟩

/-- the set that is left when its queue's has changed -/
theorem turn_of {w w' : World} {s q b : Nat} {A A' : Option Addr} {n n' c c' : Nat} {l l' : List Tm} (h : Ss w s q b A n c l) (h' : Hq w' q b A' n' c' l') (k : Kept (Foot q b A) w w') (hF : ∀ z ∈ Foot q b A', z ∈ Foot q b A ∨ w.heap.size ≤ z) :
    Turn w w' s (s :: Foot q b A) l' := by
  refine ⟨s :: Foot q b A', ⟨q, b, A', n', c', rfl, ⟨row_kept h.row k h.sf, h'⟩⟩, k.mono (fun x hx => by simp [hx]), ?_⟩
  intro z hz
  rcases List.mem_cons.1 hz with rfl | hz
  · exact .inl (by simp)
  · exact (hF z hz).imp (fun q => by simp [q]) id

def Canc (w : World) (s : Nat) (F : List Nat) (l : List Tm) (k : Tk) (w' : World) : Prop := ∃ l', Turn w w' s F l' ∧ Gone l l' k
theorem cancel_yes {w : World} {s : Nat} {F : List Nat} {l : List Tm} (h : Ts w s F l) (x : Tm) (hk : x.k.ok) (hx : x ∈ l) :
    Calls Try.prog 15 #[.pointer (some ⟨s, 0, none⟩), .agg #[.int .u8 x.k.kd, .int .u64 x.k.id]] w fun e w' => e = .returned (.bool true) ∧ Canc w s F l x.k w' := by
  obtain ⟨q, b, A, n, c, rfl, h⟩ := h
  obtain ⟨i, hi, rfl⟩ := mem_ix.1 hx
  have hl := h.hq.1.len
  have hlim := h.hq.1.lim
  have H1 := veil (h.keep (below_new w (.cells #[.int .u8 (ix l i).k.kd, .int .u64 (ix l i).k.id] 33)))
  have HB := veil (below_new w (.cells #[.int .u8 (ix l i).k.kd, .int .u64 (ix l i).k.id] 33))
  have HL : Hid (Lies l (ix l i).k (some i)) := ⟨hi, rfl⟩
  obtain ⟨m, rfl⟩ : ∃ m, n = m + 1 := ⟨n - 1, by omega⟩
  have hin : i ≤ m := by omega
  clear h hx hi hl
  go_enter Try.func15, Try.ntmps15
  go_wp2_with fail
  generalize w.alloc (.cells #[.int .u8 (ix l i).k.kd, .int .u64 (ix l i).k.id] 33) = w1 at *
  refine (find_yes H1.out (ix l i).k hk i HL.out).mono ?_
  rintro e w2 ⟨rfl, h2⟩
  have H2 := veil (H1.out.keep h2)
  have HB2 := veil (HB.out.trans (h2.mono HB.out.size))
  clear h2 H1 HB
  have c0 : w2.cell? ⟨s, 0, none⟩ = some (.pointer (some ⟨q, 0, none⟩)) := H2.out.row.cell 0
  go_wp2_with fail
  refine (take_any H2.out.hq i hin).mono ?_
  rintro e w3 ⟨rfl, l', h1, h2, h3⟩
  have Z : Hid (Canc w s (s :: Foot q b A) l (ix l i).k w3) := ⟨l', (turn_of H2.out h1 h3 (fun _ hz => .inl hz)).after (kept_below HB2.out), h2⟩
  clear h1 h2 h3 c0
  go_wp2_with fail
  go_ret
  exact ⟨rfl, Z.out⟩

end Go.Proofs.Ytkjgmimfnmilfaa.Tm5
