/-
  What a set's missing, find, Len, At answer: of a set that New made, of none, of one that no call made.
  Conditions: at most 256 timers.
-/
import Derived.Test.YtkjgmimfnmilfaaTmrT
namespace Go.Proofs.Ytkjgmimfnmilfaa.Tm5
open Go.RowKit Go.Proofs.Ytkjgmimfnmilfaa.Ops

/-- a set at block s that New made, with its queue -/
structure Ss (w : World) (s q b : Nat) (A : Option Addr) (n c : Nat) (l : List Tm) : Prop where
  row : Row w s 40 #[.pointer (some ⟨q, 0, none⟩)]
  hq : Hq w q b A n c l
/-- one that no call made -/
def Raw (w : World) (s : Nat) : Prop := Row w s 40 #[.pointer none]

theorem Ss.keep {w w' : World} {s q b : Nat} {A : Option Addr} {n c : Nat} {l : List Tm} (h : Ss w s q b A n c l) (k : Below w.heap.size w w') : Ss w' s q b A n c l := ⟨h.row.keep k, h.hq.1.keep k, h.hq.2⟩
theorem Ss.kept {w w' : World} {s q b : Nat} {A : Option Addr} {n c : Nat} {l : List Tm} {F : List Nat} (h : Ss w s q b A n c l) (k : Kept F w w') (hs : s ∉ F) (hF : ∀ x ∈ Foot q b A, x ∉ F) : Ss w' s q b A n c l := ⟨row_kept h.row k hs, h.hq.1.kept k hF, h.hq.2⟩
theorem Ss.sf {w : World} {s q b : Nat} {A : Option Addr} {n c : Nat} {l : List Tm} (h : Ss w s q b A n c l) : s ∉ Foot q b A := by
  obtain ⟨f, hq, _⟩ := h.hq.1
  intro e
  simp [Foot] at e
  rcases e with rfl | rfl | ⟨a, ha, rfl⟩
  · exact row_ne h.row hq.row (by decide) rfl
  · exact hq.mp.ne h.row rfl
  · subst ha
    rcases hq.ls.row with ⟨e, _⟩ | ⟨g, cap, rest, e, hr, _⟩
    · cases e
    · injection e with e; injection e with e; subst e; exact row_ne hr h.row (by decide) rfl

theorem missing_no {w : World} {s q : Nat} (h : Row w s 40 #[.pointer (some ⟨q, 0, none⟩)]) : Calls Try.prog 26 #[.pointer (some ⟨s, 0, none⟩)] w fun e w' => e = .returned (.bool false) ∧ w = w' := by
  have c0 : w.cell? ⟨s, 0, none⟩ = some (.pointer (some ⟨q, 0, none⟩)) := h.cell 0
  clear h
  go_enter Try.func26, Try.ntmps26
  go_wp2
  go_ret
  exact ⟨rfl, rfl⟩
theorem missing_raw {w : World} {s : Nat} (h : Raw w s) : Calls Try.prog 26 #[.pointer (some ⟨s, 0, none⟩)] w fun e w' => e = .returned (.bool true) ∧ w = w' := by
  have c0 : w.cell? ⟨s, 0, none⟩ = some (.pointer none) := Row.cell h 0
  clear h
  go_enter Try.func26, Try.ntmps26
  go_wp2
  go_ret
  exact ⟨rfl, rfl⟩
theorem missing_nil (w : World) : Calls Try.prog 26 #[.pointer none] w fun e w' => e = .returned (.bool true) ∧ w = w' := by
  go_enter Try.func26, Try.ntmps26
  go_wp2
  go_ret
  exact ⟨rfl, rfl⟩

/-- a set that is not there, or that no call made -/
def Void (w : World) : Option Addr → Prop
  | none => True
  | some a => ∃ s, a = ⟨s, 0, none⟩ ∧ Raw w s
theorem missing_void {w : World} {p : Option Addr} (h : Void w p) : Calls Try.prog 26 #[.pointer p] w fun e w' => e = .returned (.bool true) ∧ w = w' := by
  cases p with
  | none => exact missing_nil w
  | some a =>
    obtain ⟨s, rfl, h⟩ := h
    exact missing_raw h
theorem Void.keep {w w' : World} {p : Option Addr} (h : Void w p) (k : Below w.heap.size w w') : Void w' p := by
  cases p with
  | none => trivial
  | some a =>
    obtain ⟨s, e, h⟩ := h
    exact ⟨s, e, Row.keep h k⟩

theorem len_any {w : World} {s q b : Nat} {A : Option Addr} {n c : Nat} {l : List Tm} (h : Ss w s q b A n c l) :
    Calls Try.prog 16 #[.pointer (some ⟨s, 0, none⟩)] w fun e w' => e = .returned (.int .i64 n) ∧ w = w' := by
  have c0 : w.cell? ⟨s, 0, none⟩ = some (.pointer (some ⟨q, 0, none⟩)) := h.row.cell 0
  have H := veil h
  clear h
  go_enter Try.func16, Try.ntmps16
  go_wp2_with fail
  refine (missing_no H.out.row).mono ?_
  rintro e w1 ⟨rfl, rfl⟩
  go_wp2_with fail
  refine (len_q H.out.hq.1).mono ?_
  rintro e w1 ⟨rfl, rfl⟩
  go_wp2_with fail
  go_ret
  exact ⟨rfl, rfl⟩
theorem len_void {w : World} {p : Option Addr} (h : Void w p) : Calls Try.prog 16 #[.pointer p] w fun e w' => e = .returned (.int .i64 0) ∧ w = w' := by
  have H := veil h
  clear h
  go_enter Try.func16, Try.ntmps16
  go_wp2_with fail
  refine (missing_void H.out).mono ?_
  rintro e w1 ⟨rfl, rfl⟩
  go_wp2_with fail
  go_ret
  exact ⟨rfl, rfl⟩

/-- where a key lies: place i, or nowhere -/
def Lies (l : List Tm) (k : Tk) (o : Option Nat) : Prop := match o with | some i => i < l.length ∧ (ix l i).k = k | none => ∀ y ∈ l, y.k ≠ k
theorem lies_ex (l : List Tm) (k : Tk) : ∃ o, Lies l k o := by
  by_cases h : ∃ i, i < l.length ∧ (ix l i).k = k
  · obtain ⟨i, hi⟩ := h
    exact ⟨some i, hi⟩
  · refine ⟨none, fun y hy e => h ?_⟩
    obtain ⟨i, hi, rfl⟩ := mem_ix.1 hy
    exact ⟨i, hi, e⟩
theorem lies_f {l : List Tm} {k : Tk} {o : Option Nat} {f : Tk → Option Nat} (h : Lies l k o) (hp : Pl l f) : f k = o := by
  cases o with
  | some i =>
    obtain ⟨h1, h2⟩ := h
    rw [← h2]
    exact hp.1 i h1
  | none =>
    cases e : f k with
    | none => rfl
    | some i =>
      obtain ⟨h1, h2⟩ := hp.2 _ _ e
      exact absurd h2 (h _ (ix_mem h1))

theorem find_any {w : World} {s q b : Nat} {A : Option Addr} {n c : Nat} {l : List Tm} (h : Ss w s q b A n c l) (k : Tk) (hk : k.ok) (o : Option Nat) (ho : Lies l k o) :
    Calls Try.prog 25 #[.pointer (some ⟨s, 0, none⟩), kv k] w fun e w' => e = .returned (.tuple #[.int .i64 (o.getD 0 : Nat), .bool o.isSome]) ∧ Below w.heap.size w w' := by
  show Calls _ _ #[_, .agg #[.int .u8 k.kd, .int .u64 k.id]] w _
  have h1 := h.keep (below_new w (.cells #[.int .u8 k.kd, .int .u64 k.id] 33))
  have r1 := row_new (w := w) (cs := #[.int .u8 k.kd, .int .u64 k.id]) (t := 33) rfl
  have b1 := below_new w (.cells #[.int .u8 k.kd, .int .u64 k.id] 33)
  obtain ⟨g, hg⟩ : ∃ g, w.heap.size = g := ⟨_, rfl⟩
  have HB := veil b1
  rw [hg] at r1
  have H1 := veil h1
  have R1 := veil r1
  have HO := veil ho
  clear h h1 r1 b1 ho
  go_enter Try.func25, Try.ntmps25
  go_wp2_with fail
  clear hg
  generalize w.alloc (.cells #[.int .u8 k.kd, .int .u64 k.id] 33) = w1 at *
  refine (missing_no H1.out.row).mono ?_
  rintro e w2 ⟨rfl, rfl⟩
  go_wp2_with fail
  have X : Hid (w1.drew.cell? ⟨s, 0, none⟩ = some (.pointer (some ⟨q, 0, none⟩)) ∧ w1.drew.cell? ⟨q, 1, none⟩ = some (.map (some b)) ∧ w1.drew.cell? ⟨g, 0, none⟩ = some (.int .u8 k.kd) ∧ w1.drew.cell? ⟨g, 1, none⟩ = some (.int .u64 k.id) ∧
      (Instr.lookup 56 (.map (some b)) (.agg #[.int .u8 k.kd, .int .u64 k.id]) true).run Try.prog w1.drew = .ok (.tuple #[.int .i64 (o.getD 0 : Nat), .bool o.isSome]) w1.drew) := by
    obtain ⟨f, hq, hp⟩ := H1.out.hq.1
    refine ⟨H1.out.row.cell 0, hq.row.cell 1, R1.out.cell 0, R1.out.cell 1, ?_⟩
    have := (hq.mp.kept (kept_drew [] w1) (by simp)).look hk
    rw [lies_f HO.out hp] at this
    exact this
  clear R1
  go_region_held3 (fun w' => w'.cell? ⟨s, 0, none⟩ = some (.pointer (some ⟨q, 0, none⟩)) ∧ w'.cell? ⟨q, 1, none⟩ = some (.map (some b)) ∧ w'.cell? ⟨g, 0, none⟩ = some (.int .u8 k.kd) ∧ w'.cell? ⟨g, 1, none⟩ = some (.int .u64 k.id) ∧
      (Instr.lookup 56 (.map (some b)) (.agg #[.int .u8 k.kd, .int .u64 k.id]) true).run Try.prog w' = .ok (.tuple #[.int .i64 (o.getD 0 : Nat), .bool o.isSome]) w') (exact X.out) (first | fail)
  clear X
  go_wp2_with fail
  go_ret2
  exact ⟨rfl, below_still HB.out ⟨1, rfl⟩⟩
theorem find_yes {w : World} {s q b : Nat} {A : Option Addr} {n c : Nat} {l : List Tm} (h : Ss w s q b A n c l) (k : Tk) (hk : k.ok) (i : Nat) (ho : Lies l k (some i)) :
    Calls Try.prog 25 #[.pointer (some ⟨s, 0, none⟩), .agg #[.int .u8 k.kd, .int .u64 k.id]] w fun e w' => e = .returned (.tuple #[.int .i64 i, .bool true]) ∧ Below w.heap.size w w' := find_any h k hk (some i) ho
theorem find_no {w : World} {s q b : Nat} {A : Option Addr} {n c : Nat} {l : List Tm} (h : Ss w s q b A n c l) (k : Tk) (hk : k.ok) (ho : Lies l k none) :
    Calls Try.prog 25 #[.pointer (some ⟨s, 0, none⟩), .agg #[.int .u8 k.kd, .int .u64 k.id]] w fun e w' => e = .returned (.tuple #[.int .i64 0, .bool false]) ∧ Below w.heap.size w w' := find_any h k hk none ho
theorem find_void {w : World} {p : Option Addr} (h : Void w p) (k : Tk) :
    Calls Try.prog 25 #[.pointer p, .agg #[.int .u8 k.kd, .int .u64 k.id]] w fun e w' => e = .returned (.tuple #[.int .i64 0, .bool false]) ∧ Below w.heap.size w w' := by
  have H1 := veil (h.keep (below_new w (.cells #[.int .u8 k.kd, .int .u64 k.id] 33)))
  have HB := veil (below_new w (.cells #[.int .u8 k.kd, .int .u64 k.id] 33))
  clear h
  go_enter Try.func25, Try.ntmps25
  go_wp2_with fail
  generalize w.alloc (.cells #[.int .u8 k.kd, .int .u64 k.id] 33) = w1 at *
  refine (missing_void H1.out).mono ?_
  rintro e w2 ⟨rfl, rfl⟩
  go_wp2_with fail
  go_ret2
  exact ⟨rfl, HB.out⟩

end Go.Proofs.Ytkjgmimfnmilfaa.Tm5
