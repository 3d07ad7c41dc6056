/-
  The parts of a packet's bytes, by the code: the fixed header, the one that puts it on alert, a part's; slices and copies.
  Conditions: numbers that their kinds hold.
-/
import Derived.Test.YtfkjfdmepeahnaaPktP
import Derived.Test.YtfkjfdmepeahnaaOctFn
import Derived.Test.YtfkjfdmepeahnaaMemB
import Derived.Test.YtfkjfdmepeahnaaOps
import Derived.Deep.RegionHeld3
import Derived.Deep.RegionLaw
import Derived.BigRegion
import Derived.Laws.BitsAllLaws
namespace Go.Proofs.Ytfkjfdmepeahnaa.Hd
set_option maxRecDepth 100000
open Go.RowKit Ops

/-! ### slices of slices, copies -/
theorem slice_lo {A : Option Addr} {n c k : Nat} (hk : k ≤ n) (u : World) : (Instr.sliceAt 28 (.slice A n c) (some (.int .i64 k)) none none).run Try.prog u = .ok (.slice (cutA A c k) (n - k) (c - k)) u := by
  have h1 : ¬ n < k := by omega
  simp [Instr.sliceAt, run_underlying Try.underlying28, go_sem, cutA, h1]
theorem slice_hi {A : Option Addr} {n c k : Nat} (hk : k ≤ c) (u : World) : (Instr.sliceAt 28 (.slice A n c) none (some (.int .i64 k)) none).run Try.prog u = .ok (.slice A k c) u := by
  have h1 : ¬ c < k := by omega
  simp [Instr.sliceAt, run_underlying Try.underlying28, go_sem, h1]
theorem slice_lohi {A : Option Addr} {n c j k : Nat} (hj : j ≤ k) (hk : k ≤ c) (u : World) : (Instr.sliceAt 28 (.slice A n c) (some (.int .i64 j)) (some (.int .i64 k)) none).run Try.prog u = .ok (.slice (cutA A c j) (k - j) (c - j)) u := by
  simp [Instr.sliceAt, run_underlying Try.underlying28, go_sem, cutA, hj, hk]
/-- bytes copied into a block, from a place on, also none -/
theorem copy_into {w : World} {g o N c n c2 : Nat} {t : TypeId} {cur : List Value} {A B : Option Addr} {zs : List Int} (ty : TypeId) (hs : Slc w (.slice A n c2) zs) (hg : Row w g t cur.toArray) (hB : 0 < n → B = some ⟨g, o, none⟩) (hn : n ≤ N) (ho : o + n ≤ cur.length) :
    (Builtin.copy_ #[28, 28] ty #[.slice B N c, .slice A n c2]).run Try.prog w = .ok (goInt n) (w.setRow g (cur.take o ++ bv zs ++ cur.drop (o + n)).toArray) := by
  obtain ⟨hl, hr, _⟩ := slc_of hs
  by_cases h0 : 0 < n
  · rw [hB h0]
    exact run_copy_at g o N c t cur A n c2 zs w ty hl hr h0 hg hn ho
  · obtain rfl : n = 0 := by omega
    have hz : zs = [] := List.eq_nil_of_length_eq_zero hl
    subst hz
    obtain ⟨i, hi, hz0, hz1, hz2⟩ := info_parts info_u8
    have hsz : (Try.prog.info? 5).map (·.size) = some 1 := by rw [hi]; simp [hz1]
    have e : cur.take o ++ bv [] ++ cur.drop (o + 0) = cur := by simp [bv]
    rw [e, setRow_self w g cur.toArray t (0, 0) hg]
    exact run_copy_none w 28 28 ty 5 B A N c 0 c2 Try.underlying28 hsz (by simp)
/-- a list of bytes at a place in a block -/
theorem slc_at {w : World} {g o r : Nat} {t : TypeId} {zs : List Int} (h : Row w g t (bv zs).toArray) (ho : o + r ≤ zs.length) : Slc w (.slice (some ⟨g, o, none⟩) r r) ((zs.drop o).take r) := by
  have e : ((zs.drop o).take r).length = r := len_drop' ho
  have hr := rd_drop' (o := o) (r := r) h
  refine .inr ⟨⟨g, o, none⟩, r, ?_, hr, Nat.le_of_eq e⟩
  rw [e]
where
  len_drop' {zs : List Int} {o r : Nat} (h : o + r ≤ zs.length) : ((zs.drop o).take r).length = r := by simp; omega
  rd_drop' {w : World} {b o r : Nat} {t : TypeId} {zs : List Int} (h : Row w b t (bv zs).toArray) : Rd w (some ⟨b, o, none⟩) ((zs.drop o).take r) :=
    rd_row h (fun j hj => by
      have hr : j < r := by simp at hj; omega
      have := bv_get ((zs.drop o).take r) j hj
      rw [← this]
      simp [bv, hr])

theorem rd_whole {w : World} {g : Nat} {t : TypeId} {zs : List Int} (h : Row w g t (bv zs).toArray) : Rd w (some ⟨g, 0, none⟩) zs := rd_row h (fun j hj => by rw [Nat.zero_add]; exact bv_get zs j hj)
theorem _root_.Go.Proofs.Ytfkjfdmepeahnaa.Lay.octPut {w0 w : World} {L : List Blk} (h : Lay w0 w L) (A : Option Addr) (m c : Nat) (zs : List Int) (n : Int) (k : Nat) (hl : zs.length = m) (hm : m ≤ 16000000) (hr : Rd w A zs) (h1 : 1 ≤ k) (h8 : k ≤ 8) :
    Calls Try.prog 40 #[.slice A m c, .int .u64 n, .int .i64 k] w fun e w' => ∃ b, w.heap.size ≤ b ∧ e = .returned (.slice (some ⟨b, 0, none⟩) (m + k) (m + k)) ∧ Lay w0 w' ((b, 5, bv (zs ++ be n k)) :: L) :=
  (put_yes A m c zs n k w hl hm hr h1 h8).mono fun _ _ ⟨he, hw⟩ => by
    subst hw
    exact ⟨_, Nat.le_refl _, he, h.new _ _ rfl⟩

/-! ### the parts -/
theorem alertHead_any (nx : Int) (w : World) : Calls Try.prog 28 #[.int .u8 nx] w fun e w' => e = .returned (.slice (some ⟨w.heap.size, 0, none⟩) 8 8) ∧ w.alloc (.cells (bv [nx, 0, 5, 2, 0, 0, 1, 0]).toArray 5) = w' := by
  go_enter Try.func28, Try.ntmps28
  go_wp2_with fail
  go_ret
  exact ⟨rfl, rfl⟩

theorem or_one {a : Int} (h0 : 0 ≤ a) (h1 : a < 72057594037927936) : bits .or .u64 (a * 8) 1 = a * 8 + 1 := by
  obtain ⟨a, rfl⟩ := Int.eq_ofNat_of_zero_le h0
  have e1 : (a : Int) * 8 = ((a * 8 : Nat) : Int) := by omega
  rw [e1, show (1 : Int) = ((1 : Nat) : Int) from rfl, u64_or_nat _ _ (by omega) (by omega)]
  have e3 : a * 8 ||| 1 = a * 8 + 1 := by
    have := Nat.shiftLeft_add_eq_or_of_lt (a := a) (b := 1) (i := 3) (by omega)
    rw [Nat.shiftLeft_eq] at this
    simpa using this.symm
  rw [e3]
  omega

/-- bytes in a block of the call's own, whole -/
def Whole (w : World) (xs : List Int) (n : Nat) (e : Ending) (w' : World) : Prop := ∃ g, w.heap.size ≤ g ∧ e = .returned (.slice (some ⟨g, 0, none⟩) n n) ∧ Row w' g 5 (bv xs).toArray ∧ Below w.heap.size w w'

set_option linter.unusedSimpArgs false in
set_option maxHeartbeats 4000000 in
theorem partHead_true (nx id off : Int) (w : World) (bi : 0 ≤ id ∧ id < 4294967296) (bo : 0 ≤ off ∧ off < 65536) :
    Calls Try.prog 27 #[.int .u8 nx, .agg (fgc { is := true, id := id, off := off, more := true }).toArray] w (Whole w ([nx, 0] ++ be (off * 8 + 1) 2 ++ be id 4) 8) := by
  have Y := (Lay.begin w).new (fgc { is := true, id := id, off := off, more := true }) 27 (g := w.heap.size) rfl
  have hw1 : IntKind.u64.wrap off = off := by rw [IntKind.wrap_u64]; omega
  have hw2 : IntKind.u64.wrap (off * 8) = off * 8 := by rw [IntKind.wrap_u64]; omega
  have hw3 : IntKind.u64.wrap id = id := by rw [IntKind.wrap_u64]; omega
  have hor : bits .or .u64 (off * 8) 1 = off * 8 + 1 := or_one bo.1 (by omega)
  obtain ⟨w1, hw⟩ : ∃ w1, w.alloc (.cells (fgc { is := true, id := id, off := off, more := true }).toArray 27) = w1 := ⟨_, rfl⟩
  have y1 : (w.alloc (.cells (fgc { is := true, id := id, off := off, more := true }).toArray 27)).cell? ⟨w.heap.size, 2, none⟩ = some (.int .u16 off) := Y.look mem0 rfl
  have y2 : (w.alloc (.cells (fgc { is := true, id := id, off := off, more := true }).toArray 27)).cell? ⟨w.heap.size, 3, none⟩ = some (.bool true) := Y.look mem0 rfl
  rw [hw] at Y
  have HW := veil hw
  clear hw
  have YD := veil Y.drew
  have D1 := veil (YD.out.look mem0 (o := 1) rfl)
  have Y2 := veil (YD.out.newA #[.int .u8 nx, .int .u8 0] 5 (g := w1.drew.heap.size) rfl)
  have D2 := veil (Y2.out.look mem1 (o := 1) rfl)
  have R2 := veil (rd_whole (zs := [nx, 0]) (Y2.out.at mem0))
  clear Y
  go_enter Try.func27, Try.ntmps27
  go_wp2_with fail
  rw [HW.out]
  clear HW
  refine wp_region_noPanic ?_
  refine wp_region_held_drew (S := (fun w' => w'.cell? ⟨w.heap.size, 1, none⟩ = some (.int .u32 id))) (by kernel_rfl) D1.out (fun hHeld => ?_)
  refine wpAnyH_take (i := 0) (v := ?_) (by rfl) (by kernel_rfl) (by kernel_rfl) (by kernel_rfl) (fun _ _ _ h => h) (Or.inl ⟨by rfl, ?_⟩) hHeld ?_
  rotate_left
  · intro w' hSw
    (try dsimp only at hSw)
    simp only [List.getElem_toArray, List.getElem_cons_zero, List.getElem_cons_succ]
    go_simp
    all_goals (try with_reducible rfl)
  try simp only [Act.put, List.setIfInBounds_toArray, List.set_cons_zero, List.set_cons_succ, List.getElem_toArray, List.getElem_cons_zero, List.getElem_cons_succ]
  refine wpAnyH_take (i := 2) (v := ?_) (by rfl) (by kernel_rfl) (by kernel_rfl) (by kernel_rfl) (fun _ _ _ h => h) (Or.inl ⟨by rfl, ?_⟩) hHeld ?_
  rotate_left
  · intro w' hSw
    (try dsimp only at hSw)
    simp only [List.getElem_toArray, List.getElem_cons_zero, List.getElem_cons_succ]
    go_simp
    all_goals (try with_reducible rfl)
  try simp only [Act.put, List.setIfInBounds_toArray, List.set_cons_zero, List.set_cons_succ, List.getElem_toArray, List.getElem_cons_zero, List.getElem_cons_succ]
  refine wpAnyH_take (i := 4) (v := ?_) (by rfl) (by kernel_rfl) (by kernel_rfl) (by kernel_rfl) (fun _ _ _ h => h) (Or.inl ⟨by rfl, ?_⟩) hHeld ?_
  rotate_left
  · intro w' hSw
    (try dsimp only at hSw)
    simp only [List.getElem_toArray, List.getElem_cons_zero, List.getElem_cons_succ]
    go_simp
    all_goals (try with_reducible rfl)
  try simp only [Act.put, List.setIfInBounds_toArray, List.set_cons_zero, List.set_cons_succ, List.getElem_toArray, List.getElem_cons_zero, List.getElem_cons_succ]
  refine wpAnyH_take (i := 5) (v := ?_) (by rfl) (by kernel_rfl) (by kernel_rfl) (by kernel_rfl) (fun _ _ _ h => h) (Or.inl ⟨by rfl, ?_⟩) hHeld ?_
  rotate_left
  · intro w' hSw
    (try dsimp only at hSw)
    simp only [List.getElem_toArray, List.getElem_cons_zero, List.getElem_cons_succ]
    go_simp
    all_goals (try with_reducible rfl)
  try simp only [Act.put, List.setIfInBounds_toArray, List.set_cons_zero, List.set_cons_succ, List.getElem_toArray, List.getElem_cons_zero, List.getElem_cons_succ]
  refine wpAnyH_take (i := 6) (v := ?_) (by rfl) (by kernel_rfl) (by kernel_rfl) (by kernel_rfl) (fun _ _ _ h => h) (Or.inl ⟨by rfl, ?_⟩) hHeld ?_
  rotate_left
  · intro w' hSw
    (try dsimp only at hSw)
    simp only [List.getElem_toArray, List.getElem_cons_zero, List.getElem_cons_succ]
    go_simp
    all_goals (try with_reducible rfl)
  try simp only [Act.put, List.setIfInBounds_toArray, List.set_cons_zero, List.set_cons_succ, List.getElem_toArray, List.getElem_cons_zero, List.getElem_cons_succ]
  refine wpAnyH_ready (rs := [1]) (by kernel_rfl) (by simp) ?_
  refine AllReadyH.cons (by rfl) (fun K hK => ?_) AllReadyH.nil
  simp only [List.getElem_toArray, List.getElem_cons_zero, List.getElem_cons_succ]
  go_simp
  (try dsimp only)
  refine hK.out _ _ D2.out (fun hHeld => ?_)
  clear hK K
  try simp only [Act.put, List.setIfInBounds_toArray, List.set_cons_zero, List.set_cons_succ, List.getElem_toArray, List.getElem_cons_zero, List.getElem_cons_succ]
  refine wpAnyH_ready (rs := [3]) (by kernel_rfl) (by simp) ?_
  refine AllReadyH.cons (by rfl) (fun K hK => ?_) AllReadyH.nil
  simp only [List.getElem_toArray, List.getElem_cons_zero, List.getElem_cons_succ]
  go_simp
  refine (Y2.out.octPut _ 2 2 [nx, 0] _ 2 rfl (by omega) R2.out (by omega) (by omega)).mono ?_
  rintro e w3 ⟨b3, h3, rfl, Y3⟩
  have D3 := veil (Y3.look mem2 (o := 1) rfl)
  have VY3 := veil Y3
  have R3 := veil (rd_whole (Y3.at mem0))
  clear Y3
  (try dsimp only)
  refine hK.out _ _ D3.out (fun hHeld => ?_)
  clear hK K
  try simp only [Act.put, List.setIfInBounds_toArray, List.set_cons_zero, List.set_cons_succ, List.getElem_toArray, List.getElem_cons_zero, List.getElem_cons_succ]
  refine wpAnyH_ready (rs := [7]) (by kernel_rfl) (by simp) ?_
  refine AllReadyH.cons (by rfl) (fun K hK => ?_) AllReadyH.nil
  simp only [List.getElem_toArray, List.getElem_cons_zero, List.getElem_cons_succ]
  go_simp
  refine (VY3.out.octPut _ 4 4 _ _ 4 (by simp [be_length]) (by omega) R3.out (by omega) (by omega)).mono ?_
  rintro e w4 ⟨b4, h4, rfl, Y4⟩
  have hlo : w.heap.size ≤ b4 := Nat.le_trans VY3.out.size h4
  have D4 := veil (Y4.look mem3 (o := 1) rfl)
  (try dsimp only)
  refine hK.out _ _ D4.out (fun hHeld => ?_)
  clear hK K
  try simp only [Act.put, List.setIfInBounds_toArray, List.set_cons_zero, List.set_cons_succ, List.getElem_toArray, List.getElem_cons_zero, List.getElem_cons_succ]
  refine wpAnyH_take (i := 8) (v := ?_) (by rfl) (by kernel_rfl) (by kernel_rfl) (by kernel_rfl) (fun _ _ _ h => h) (Or.inl ⟨by rfl, ?_⟩) hHeld ?_
  rotate_left
  · intro w' hSw
    (try dsimp only at hSw)
    simp only [List.getElem_toArray, List.getElem_cons_zero, List.getElem_cons_succ]
    go_simp
    all_goals (try with_reducible rfl)
  try simp only [Act.put, List.setIfInBounds_toArray, List.set_cons_zero, List.set_cons_succ, List.getElem_toArray, List.getElem_cons_zero, List.getElem_cons_succ]
  refine wpAnyH_done (by kernel_rfl) ?_ _
  refine NoPanic.normal ?_
  clear hHeld
  go_wp2_with fail
  go_ret
  exact ⟨_, hlo, rfl, Y4.at mem0, Y4.below⟩

set_option linter.unusedSimpArgs false in
set_option maxHeartbeats 4000000 in
theorem partHead_false (nx id off : Int) (w : World) (bi : 0 ≤ id ∧ id < 4294967296) (bo : 0 ≤ off ∧ off < 65536) :
    Calls Try.prog 27 #[.int .u8 nx, .agg (fgc { is := true, id := id, off := off, more := false }).toArray] w (Whole w ([nx, 0] ++ be (off * 8) 2 ++ be id 4) 8) := by
  have Y := (Lay.begin w).new (fgc { is := true, id := id, off := off, more := false }) 27 (g := w.heap.size) rfl
  have hw1 : IntKind.u64.wrap off = off := by rw [IntKind.wrap_u64]; omega
  have hw2 : IntKind.u64.wrap (off * 8) = off * 8 := by rw [IntKind.wrap_u64]; omega
  have hw3 : IntKind.u64.wrap id = id := by rw [IntKind.wrap_u64]; omega
  obtain ⟨w1, hw⟩ : ∃ w1, w.alloc (.cells (fgc { is := true, id := id, off := off, more := false }).toArray 27) = w1 := ⟨_, rfl⟩
  have y1 : (w.alloc (.cells (fgc { is := true, id := id, off := off, more := false }).toArray 27)).cell? ⟨w.heap.size, 2, none⟩ = some (.int .u16 off) := Y.look mem0 rfl
  have y2 : (w.alloc (.cells (fgc { is := true, id := id, off := off, more := false }).toArray 27)).cell? ⟨w.heap.size, 3, none⟩ = some (.bool false) := Y.look mem0 rfl
  rw [hw] at Y
  have HW := veil hw
  clear hw
  have YD := veil Y.drew
  have D1 := veil (YD.out.look mem0 (o := 1) rfl)
  have Y2 := veil (YD.out.newA #[.int .u8 nx, .int .u8 0] 5 (g := w1.drew.heap.size) rfl)
  have D2 := veil (Y2.out.look mem1 (o := 1) rfl)
  have R2 := veil (rd_whole (zs := [nx, 0]) (Y2.out.at mem0))
  clear Y
  go_enter Try.func27, Try.ntmps27
  go_wp2_with fail
  rw [HW.out]
  clear HW
  refine wp_region_noPanic ?_
  refine wp_region_held_drew (S := (fun w' => w'.cell? ⟨w.heap.size, 1, none⟩ = some (.int .u32 id))) (by kernel_rfl) D1.out (fun hHeld => ?_)
  refine wpAnyH_take (i := 0) (v := ?_) (by rfl) (by kernel_rfl) (by kernel_rfl) (by kernel_rfl) (fun _ _ _ h => h) (Or.inl ⟨by rfl, ?_⟩) hHeld ?_
  rotate_left
  · intro w' hSw
    (try dsimp only at hSw)
    simp only [List.getElem_toArray, List.getElem_cons_zero, List.getElem_cons_succ]
    go_simp
    all_goals (try with_reducible rfl)
  try simp only [Act.put, List.setIfInBounds_toArray, List.set_cons_zero, List.set_cons_succ, List.getElem_toArray, List.getElem_cons_zero, List.getElem_cons_succ]
  refine wpAnyH_take (i := 2) (v := ?_) (by rfl) (by kernel_rfl) (by kernel_rfl) (by kernel_rfl) (fun _ _ _ h => h) (Or.inl ⟨by rfl, ?_⟩) hHeld ?_
  rotate_left
  · intro w' hSw
    (try dsimp only at hSw)
    simp only [List.getElem_toArray, List.getElem_cons_zero, List.getElem_cons_succ]
    go_simp
    all_goals (try with_reducible rfl)
  try simp only [Act.put, List.setIfInBounds_toArray, List.set_cons_zero, List.set_cons_succ, List.getElem_toArray, List.getElem_cons_zero, List.getElem_cons_succ]
  refine wpAnyH_take (i := 4) (v := ?_) (by rfl) (by kernel_rfl) (by kernel_rfl) (by kernel_rfl) (fun _ _ _ h => h) (Or.inl ⟨by rfl, ?_⟩) hHeld ?_
  rotate_left
  · intro w' hSw
    (try dsimp only at hSw)
    simp only [List.getElem_toArray, List.getElem_cons_zero, List.getElem_cons_succ]
    go_simp
    all_goals (try with_reducible rfl)
  try simp only [Act.put, List.setIfInBounds_toArray, List.set_cons_zero, List.set_cons_succ, List.getElem_toArray, List.getElem_cons_zero, List.getElem_cons_succ]
  refine wpAnyH_take (i := 5) (v := ?_) (by rfl) (by kernel_rfl) (by kernel_rfl) (by kernel_rfl) (fun _ _ _ h => h) (Or.inl ⟨by rfl, ?_⟩) hHeld ?_
  rotate_left
  · intro w' hSw
    (try dsimp only at hSw)
    simp only [List.getElem_toArray, List.getElem_cons_zero, List.getElem_cons_succ]
    go_simp
    all_goals (try with_reducible rfl)
  try simp only [Act.put, List.setIfInBounds_toArray, List.set_cons_zero, List.set_cons_succ, List.getElem_toArray, List.getElem_cons_zero, List.getElem_cons_succ]
  refine wpAnyH_take (i := 6) (v := ?_) (by rfl) (by kernel_rfl) (by kernel_rfl) (by kernel_rfl) (fun _ _ _ h => h) (Or.inl ⟨by rfl, ?_⟩) hHeld ?_
  rotate_left
  · intro w' hSw
    (try dsimp only at hSw)
    simp only [List.getElem_toArray, List.getElem_cons_zero, List.getElem_cons_succ]
    go_simp
    all_goals (try with_reducible rfl)
  try simp only [Act.put, List.setIfInBounds_toArray, List.set_cons_zero, List.set_cons_succ, List.getElem_toArray, List.getElem_cons_zero, List.getElem_cons_succ]
  refine wpAnyH_ready (rs := [1]) (by kernel_rfl) (by simp) ?_
  refine AllReadyH.cons (by rfl) (fun K hK => ?_) AllReadyH.nil
  simp only [List.getElem_toArray, List.getElem_cons_zero, List.getElem_cons_succ]
  go_simp
  (try dsimp only)
  refine hK.out _ _ D2.out (fun hHeld => ?_)
  clear hK K
  try simp only [Act.put, List.setIfInBounds_toArray, List.set_cons_zero, List.set_cons_succ, List.getElem_toArray, List.getElem_cons_zero, List.getElem_cons_succ]
  refine wpAnyH_ready (rs := [3]) (by kernel_rfl) (by simp) ?_
  refine AllReadyH.cons (by rfl) (fun K hK => ?_) AllReadyH.nil
  simp only [List.getElem_toArray, List.getElem_cons_zero, List.getElem_cons_succ]
  go_simp
  refine (Y2.out.octPut _ 2 2 [nx, 0] _ 2 rfl (by omega) R2.out (by omega) (by omega)).mono ?_
  rintro e w3 ⟨b3, h3, rfl, Y3⟩
  have D3 := veil (Y3.look mem2 (o := 1) rfl)
  have VY3 := veil Y3
  have R3 := veil (rd_whole (Y3.at mem0))
  clear Y3
  (try dsimp only)
  refine hK.out _ _ D3.out (fun hHeld => ?_)
  clear hK K
  try simp only [Act.put, List.setIfInBounds_toArray, List.set_cons_zero, List.set_cons_succ, List.getElem_toArray, List.getElem_cons_zero, List.getElem_cons_succ]
  refine wpAnyH_ready (rs := [7]) (by kernel_rfl) (by simp) ?_
  refine AllReadyH.cons (by rfl) (fun K hK => ?_) AllReadyH.nil
  simp only [List.getElem_toArray, List.getElem_cons_zero, List.getElem_cons_succ]
  go_simp
  refine (VY3.out.octPut _ 4 4 _ _ 4 (by simp [be_length]) (by omega) R3.out (by omega) (by omega)).mono ?_
  rintro e w4 ⟨b4, h4, rfl, Y4⟩
  have hlo : w.heap.size ≤ b4 := Nat.le_trans VY3.out.size h4
  have D4 := veil (Y4.look mem3 (o := 1) rfl)
  (try dsimp only)
  refine hK.out _ _ D4.out (fun hHeld => ?_)
  clear hK K
  try simp only [Act.put, List.setIfInBounds_toArray, List.set_cons_zero, List.set_cons_succ, List.getElem_toArray, List.getElem_cons_zero, List.getElem_cons_succ]
  refine wpAnyH_take (i := 8) (v := ?_) (by rfl) (by kernel_rfl) (by kernel_rfl) (by kernel_rfl) (fun _ _ _ h => h) (Or.inl ⟨by rfl, ?_⟩) hHeld ?_
  rotate_left
  · intro w' hSw
    (try dsimp only at hSw)
    simp only [List.getElem_toArray, List.getElem_cons_zero, List.getElem_cons_succ]
    go_simp
    all_goals (try with_reducible rfl)
  try simp only [Act.put, List.setIfInBounds_toArray, List.set_cons_zero, List.set_cons_succ, List.getElem_toArray, List.getElem_cons_zero, List.getElem_cons_succ]
  refine wpAnyH_done (by kernel_rfl) ?_ _
  refine NoPanic.normal ?_
  clear hHeld
  go_wp2_with fail
  go_ret
  exact ⟨_, hlo, rfl, Y4.at mem0, Y4.below⟩

/-- a list of one's own that a callee has handed out whole -/
theorem Grow.whole {w0 w : World} {L : List Blk} {b n : Nat} {xs : List Int} (h : Lay w0 w ((b, 5, bv xs) :: L)) (hn : xs.length = n) (hm : n ≤ 16777216) (hf : ∀ x ∈ L, x.1 < b) : Grow w0 w L b (.slice (some ⟨b, 0, none⟩) n n) xs := by
  refine ⟨h.sub (List.sublist_cons_self _ _), ?_, h.own _ mem0, Nat.le_of_lt (h.lt mem0), hf⟩
  subst hn
  refine ⟨by simp [bv_length], .inr ⟨b, xs.length, (bv xs).toArray, rfl, Nat.le_refl _, h.at mem0, Nat.le_refl _, by unfold maxLen; omega, by simp [bv_length], ?_⟩⟩
  rw [Nat.mul_one, List.take_of_length_le (by simp [bv_length])]

set_option linter.unusedSimpArgs false in
set_option maxHeartbeats 4000000 in
theorem fixedHead_any (k : Pk) (v : Value) (many : Nat) (nx : Int) (w : World) (M : Ends k) (hm : many ≤ 65535) :
    Calls Try.prog 29 #[pv k v, .int .i64 many, .int .u8 nx] w (Gives w ([96, 0, 0, 0] ++ be many 2 ++ [nx, k.hops] ++ k.s ++ k.d)) := by
  have Y := (Lay.begin w).new (pc k v) 30 (g := w.heap.size) rfl
  have hwm : IntKind.u64.wrap (many : Int) = (many : Int) := by rw [IntKind.wrap_u64]; omega
  have hsz : (w.alloc (.cells (pc k v).toArray 30)).heap.size = w.heap.size + 1 := by simp
  have Y1 := veil (Y.newA #[.int .u8 96, .int .u8 0, .int .u8 0, .int .u8 0] 5 (g := w.heap.size + 1) hsz.symm)
  have R1 := veil (rd_whole (zs := [96, 0, 0, 0]) (Y1.out.at mem0))
  have VM := veil M
  clear Y hsz
  go_enter Try.func29, Try.ntmps29
  go_wp2_with fail
  refine (Y1.out.octPut _ 4 4 [96, 0, 0, 0] _ 2 rfl (by omega) R1.out (by omega) (by omega)).mono ?_
  rintro e w3 ⟨b3, h3, rfl, Y3⟩
  have G3 := Grow.whole (Y3.sub (by exact List.Sublist.cons_cons _ (List.sublist_cons_self _ _))) (by simp [be_length] : _ = 6) (by omega) (fun x hx => by
    have e1 := Y1.out.lt (List.mem_cons_of_mem _ hx)
    omega)
  have y0 : w3.cell? ⟨w.heap.size, 32, none⟩ = some (.int .u8 k.hops) := G3.lay.look mem0 (pc_hops VM.out)
  have G4 := G3.keep (below_new w3 (.cells #[.int .u8 nx, .int .u8 k.hops] 5))
  have S4 : Slc (w3.alloc (.cells #[.int .u8 nx, .int .u8 k.hops] 5)) (.slice (some ⟨w3.heap.size, 0, none⟩) 2 2) [nx, k.hops] := by
    have r : Row (w3.alloc (.cells #[.int .u8 nx, .int .u8 k.hops] 5)) w3.heap.size 5 (bv [nx, k.hops]).toArray := row_new rfl
    exact .inr ⟨_, 2, rfl, rd_whole r, Nat.le_refl _⟩
  obtain ⟨v5, w5, h5, G5⟩ := G4.append S4 (by simp [be_length]) 28
  obtain ⟨v6, w6, h6, G6⟩ := G5.append (slc_part (n := 16) (c := 16) (G5.lay.at mem0) pc_src VM.out.s (by omega)) (by simp [be_length, VM.out.s]) 28
  obtain ⟨v7, w7, h7, G7⟩ := G6.append (slc_part (n := 16) (c := 16) (G6.lay.at mem0) (pc_dst VM.out) VM.out.d (by omega)) (by simp [be_length, VM.out.s, VM.out.d]) 28
  have GG := veil G7.gives
  have H5 := veil h5
  have H6 := veil h6
  have H7 := veil h7
  clear Y1 R1 Y3 G3 G4 G5 G6 G7 S4 h3 h5 h6 h7 VM M
  go_wp2_with (first
    | (at_builtin; refine wpList_append_run rfl (.tmp 12) (.tmp 16) rfl rfl rfl H5.out ?_)
    | (at_builtin; refine wpList_append_run rfl (.tmp 18) (.tmp 20) rfl rfl rfl H6.out ?_)
    | (at_builtin; refine wpList_append_run rfl (.tmp 22) (.tmp 24) rfl rfl rfl H7.out ?_))
  go_ret
  exact GG.out

end Go.Proofs.Ytfkjfdmepeahnaa.Hd
