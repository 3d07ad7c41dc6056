/-
  A chain, by the document's answer: through a part.
  Conditions: at most 16000000 bytes.
-/
import Derived.Test.YtfkjfdmepeahnaaHdrW
import Derived.Deep.RegionHeld3
import Derived.Deep.RegionLaw
import Derived.BigRegion
namespace Go.Proofs.Ytfkjfdmepeahnaa.Hd
set_option maxRecDepth 100000
open Go.RowKit

/-- the bytes of a part's header, where they lie -/
def Eight (w' : World) (a : Addr) (x0 x2 x3 x4 x5 x6 x7 : Int) : Prop := w'.cell? a = some (.int .u8 x0) ∧ w'.cell? ⟨a.block, a.off + 2, none⟩ = some (.int .u8 x2) ∧ w'.cell? ⟨a.block, a.off + 3, none⟩ = some (.int .u8 x3) ∧ w'.cell? ⟨a.block, a.off + 4, none⟩ = some (.int .u8 x4) ∧ w'.cell? ⟨a.block, a.off + 5, none⟩ = some (.int .u8 x5) ∧ w'.cell? ⟨a.block, a.off + 6, none⟩ = some (.int .u8 x6) ∧ w'.cell? ⟨a.block, a.off + 7, none⟩ = some (.int .u8 x7)
theorem eight_of {w : World} {a : Addr} {zs : List Int} (h : Rd w (some a) zs) (h8 : 8 ≤ zs.length) : Eight w a (zs.getD 0 0) (zs.getD 2 0) (zs.getD 3 0) (zs.getD 4 0) (zs.getD 5 0) (zs.getD 6 0) (zs.getD 7 0) := by
  have g : ∀ j, j < 8 → w.cell? (a.add j) = some (.int .u8 (zs.getD j 0)) := fun j hj => by
    obtain ⟨b, e, hc⟩ := h j (by omega)
    injection e with e
    subst e
    exact hc
  exact ⟨g 0 (by omega), g 2 (by omega), g 3 (by omega), g 4 (by omega), g 5 (by omega), g 6 (by omega), g 7 (by omega)⟩
theorem Eight.keep {w w' : World} {a : Addr} {x0 x2 x3 x4 x5 x6 x7 : Int} (h : Eight w a x0 x2 x3 x4 x5 x6 x7) (q : Below w.heap.size w w') : Eight w' a x0 x2 x3 x4 x5 x6 x7 := by
  obtain ⟨h0, h2, h3, h4, h5, h6, h7⟩ := h
  exact ⟨(q.cell (block_lt_of_cell h0)).trans h0, (q.cell (block_lt_of_cell h2)).trans h2, (q.cell (block_lt_of_cell h3)).trans h3, (q.cell (block_lt_of_cell h4)).trans h4, (q.cell (block_lt_of_cell h5)).trans h5, (q.cell (block_lt_of_cell h6)).trans h6, (q.cell (block_lt_of_cell h7)).trans h7⟩
theorem Eight.set {w : World} {a : Addr} {x0 x2 x3 x4 x5 x6 x7 : Int} (h : Eight w a x0 x2 x3 x4 x5 x6 x7) {g : Nat} (hne : a.block ≠ g) (i : Nat) (v : Value) : Eight (w.setCell ⟨g, i, none⟩ v) a x0 x2 x3 x4 x5 x6 x7 := by
  obtain ⟨h0, h2, h3, h4, h5, h6, h7⟩ := h
  have s : ∀ (b : Addr) (u : Value), b.block = a.block → w.cell? b = some u → (w.setCell ⟨g, i, none⟩ v).cell? b = some u := fun b u hb hu => by
    rw [← hu]
    exact World.cell?_of_block (Below.heap_setCell w ⟨g, i, none⟩ v _ (by rw [hb]; exact hne))
  exact ⟨s _ _ rfl h0, s _ _ rfl h2, s _ _ rfl h3, s _ _ rfl h4, s _ _ rfl h5, s _ _ rfl h6, s _ _ rfl h7⟩
theorem sizeFrag {f : Fg} : (Try.prog.info? 27).map (·.size) = some (fgc f).length := by rw [show (fgc f).length = 4 from rfl]; kernel_rfl
theorem fgc_one {f : Fg} : ∀ x ∈ fgc f, x.oneCell' = true := fun x hx => by
  simp only [fgc, List.mem_cons, List.not_mem_nil, or_false] at hx
  rcases hx with rfl | rfl | rfl | rfl <;> rfl
theorem made_frag (o : Int) (mo : Bool) (w : World) : (Instr.build 27 #[(0, .bool true), (2, .int .u16 o), (3, .bool mo)]).run Try.prog w = .ok (.agg (fgc { is := true, off := o, more := mo }).toArray) w := by
  show (Instr.build 27 #[(0, .bool true), (2, .int .u16 o), (3, .bool mo)]).run Try.prog w = .ok (.agg #[.bool true, .int .u32 0, .int .u16 o, .bool mo]) w
  kernel_rfl
theorem made_part (l : Int) (A : Option Addr) (k c : Nat) (al : Bool) (rs : List Int) (f : Fg) (w : World) : (Instr.build 54 #[(0, .int .u8 l), (1, .slice A k c), (2, .bool al), (3, .agg (fgc f).toArray)]).run Try.prog w = .ok (tv { last := l, rest := rs, alert := al, frag := f } (.slice A k c)) w := by
  show (Instr.build 54 #[(0, .int .u8 l), (1, .slice A k c), (2, .bool al), (3, .agg #[.bool f.is, .int .u32 f.id, .int .u16 f.off, .bool f.more])]).run Try.prog w = .ok (.agg #[.int .u8 l, .slice A k c, .bool al, .bool f.is, .int .u32 f.id, .int .u16 f.off, .bool f.more, .int .u8 0, .int .u32 0, .int .i64 0]) w
  kernel_rfl
theorem num_two {zs : List Int} (k : Nat) (h : k + 2 ≤ zs.length) : num ((zs.drop k).take 2) = 256 * zs.getD k 0 + zs.getD (k + 1) 0 := by
  have e1 := num_next (zs.drop k) 1 (by simp; omega)
  have e2 := num_next (zs.drop k) 0 (by simp; omega)
  have g0 : (zs.drop k).getD 0 0 = zs.getD k 0 := by simp [List.getD]
  have g1 : (zs.drop k).getD 1 0 = zs.getD (k + 1) 0 := by simp [List.getD]
  rw [e1, e2, g0, g1]
  simp [num]
theorem num_four {zs : List Int} (k : Nat) (h : k + 4 ≤ zs.length) : num ((zs.drop k).take 4) = 256 * (256 * (256 * zs.getD k 0 + zs.getD (k + 1) 0) + zs.getD (k + 2) 0) + zs.getD (k + 3) 0 := by
  have e1 := num_next (zs.drop k) 3 (by simp; omega)
  have e2 := num_next (zs.drop k) 2 (by simp; omega)
  have e3 := num_two k (zs := zs) (by omega)
  have g2 : (zs.drop k).getD 2 0 = zs.getD (k + 2) 0 := by simp [List.getD]
  have g3 : (zs.drop k).getD 3 0 = zs.getD (k + 3) 0 := by simp [List.getD]
  rw [e1, e2, e3, g2, g3]

set_option linter.unusedSimpArgs false in
set_option maxRecDepth 100000 in
set_option maxHeartbeats 8000000 in
theorem walk_44 (zs : List Int) (A : Option Addr) (n c : Nat) (p told : Int) (first mc al : Bool) (w : World) (hs : Slc w (.slice A n c) zs) (hzs : Byt zs) (hn : n ≤ 16000000) (hp : 0 ≤ p ∧ p + n < 18446744073709551616) (IH : WalkOk zs.length) :
    Calls Try.prog 39 #[.int .u8 44, .slice A n c, .int .u64 p, .int .u64 told, .bool first, .bool mc, .bool al] w (Tells w (walk 44 zs p told first mc al)) := by
  obtain ⟨hl, hr, hc⟩ := slc_of hs
  obtain ⟨R, hR⟩ : ∃ R, walk 44 zs p told first mc al = R := ⟨_, rfl⟩
  rw [hR]
  rw [walk, if_neg (by omega), if_neg (by omega), if_pos rfl] at hR
  obtain ⟨Z, hZ⟩ : ∃ Z, Z = zt := ⟨_, rfl⟩
  have hz : Hid (Z.toList.length = 10) := by rw [hZ]; exact rfl
  have VY := veil ((Lay.begin w).newA Z 54 (g := w.heap.size) rfl)
  have HL := veil hl
  have HS := veil hs
  have HR := veil hr
  have HB := veil hzs
  have HP := veil hp
  have HC := veil hc
  by_cases h8 : zs.length < 8
  · rw [if_pos h8] at hR
    have i8 : (n : Int) < 8 := by omega
    clear hl hs hr hzs hp hc
    generalize Z.toList = ZL at *
    unfold zt at hZ
    subst hZ
    go_enter Try.func39, Try.ntmps39
    subst hR
    have T := veil (told_store (t := errT 5) (v := nilV) VY.out mem0 hz.out rfl)
    have Y2 := veil (VY.out.put 0 rfl (tc (errT 5) nilV))
    simp only [List.set_cons_zero] at Y2
    have B := veil (fun u => made_err 5 u)
    have hr : Hid ((errT 5).rest = []) := rfl
    generalize errT 5 = te at *
    go_wp2_with (first
      | (refine wpList_build_of rfl _ _ rfl _ (by simp [Act.eval]) (B.out _) ?_)
      | (refine wpList_store_of rfl _ _ rfl rfl rfl T.out ?_))
    refine bodyPost_ret (told_ret Y2.out mem0 rfl rfl) rfl ?_
    exact ⟨none, 0, 0, rfl, by rw [hr.out]; exact slc_nil _, (fun _ h => by cases h), Y2.out.below⟩
  · rw [if_neg h8] at hR
    have i8 : ¬ (n : Int) < 8 := by omega
    obtain ⟨a, rfl, _⟩ := hr 0 (by omega)
    have E0 := eight_of hr (by omega)
    have n2 := num_two (zs := zs) 2 (by omega)
    have n4 := num_four (zs := zs) 4 (by omega)
    have bb : ∀ j, 0 ≤ zs.getD j 0 ∧ zs.getD j 0 ≤ 255 := fun j => hzs.at_ j
    have b0 := bb 0
    have b2 := bb 2
    have b3 := bb 3
    have b4 := bb 4
    have b5 := bb 5
    have b6 := bb 6
    have b7 := bb 7
    have KW : Hid ((fragOf zs).off = 0 ∧ (fragOf zs).more = false → walk (zs.getD 0 0) (zs.drop 8) (p + 8) p false mc al = R → ∀ u, Slc u (.slice (cutA (some a) c 8) (n - 8) (c - 8)) (zs.drop 8) → Calls Try.prog 39 #[.int .u8 (zs.getD 0 0), .slice (cutA (some a) c 8) (n - 8) (c - 8), .int .u64 (p + 8), .int .u64 p, .bool false, .bool mc, .bool al] u (Tells u R)) := fun _ hR u hsu => by
      have h := IH (zs.getD 0 0) (zs.drop 8) (cutA (some a) c 8) (n - 8) (c - 8) (p + 8) p false mc al u (by simp; omega) b0 hsu (HB.out.drop 8) (by omega) (by omega) (by omega)
      rwa [hR] at h
    have hfo : (fragOf zs).off = num ((zs.drop 2).take 2) / 8 := rfl
    have hfm : (fragOf zs).more = decide (num ((zs.drop 2).take 2) % 2 = 1) := rfl
    have hfi : (fragOf zs).id = num ((zs.drop 4).take 4) := rfl
    have hfs : (fragOf zs).is = true := rfl
    rw [n2] at hfo hfm
    rw [n4] at hfi
    generalize fragOf zs = f at *
    replace KW := veil KW
    generalize zs.getD 0 0 = x0 at *
    generalize zs.getD 2 0 = x2 at *
    generalize zs.getD (2 + 1) 0 = x3 at *
    generalize zs.getD 4 0 = x4 at *
    generalize zs.getD (4 + 1) 0 = x5 at *
    generalize zs.getD (4 + 2) 0 = x6 at *
    generalize zs.getD (4 + 3) 0 = x7 at *
    obtain ⟨q, hq⟩ : ∃ q, 256 * x2 + x3 = q := ⟨_, rfl⟩
    rw [hq] at hfo hfm
    have hqb : 0 ≤ q ∧ q < 65536 := by omega
    have HQ : IntKind.u16.wrap (IntKind.u16.wrap (256 * IntKind.u16.wrap x2) + IntKind.u16.wrap x3) = q := by
      simp [IntKind.wrap, IntKind.signed, IntKind.bits]
      omega
    have E1 := veil (E0.keep VY.out.below)
    have i0n : 0 < n := by omega
    have i2 : (2 : Int) < (n : Int) := by omega
    have i3 : (3 : Int) < (n : Int) := by omega
    have i4 : (4 : Int) < (n : Int) := by omega
    have i5 : (5 : Int) < (n : Int) := by omega
    have i6 : (6 : Int) < (n : Int) := by omega
    have i7 : (7 : Int) < (n : Int) := by omega
    have BB := veil (And.intro hqb (And.intro hq (And.intro b4 (And.intro b5 (And.intro b6 b7)))))
    have HF := veil (And.intro hfo (And.intro hfm (And.intro hfi hfs)))
    have VR := veil hR
    have E0w := veil E0.1
    have hne : Hid (a.block ≠ w.heap.size) := by have := block_lt_of_cell E0.1; show a.block ≠ w.heap.size; omega
    clear hl hs hr hzs hp hc IH n2 n4 bb b0 b2 b3 b4 b5 b6 b7 hfo hfm hfi hfs hq hqb hR E0
    obtain ⟨w1, hw1⟩ : ∃ w1, w.alloc (.cells Z 54) = w1 := ⟨_, rfl⟩
    rw [hw1] at VY E1
    generalize Z.toList = ZL at *
    unfold zt at hZ
    subst hZ
    go_enter Try.func39, Try.ntmps39
    go_wp2_with fail
    clear hw1
    have VY := veil VY.out.drew
    have E2 := veil (show Eight w1.drew a x0 x2 x3 x4 x5 x6 x7 from E1.out)
    clear E1
    refine wp_region_noPanic ?_
    refine wp_region_held_drew (S := (fun w' => Eight w' a x0 x2 x3 x4 x5 x6 x7)) (by kernel_rfl) E2.out (fun hHeld => ?_)
    refine wpAnyH_take (i := 0) (v := ?_) (by rfl) (by kernel_rfl) (by kernel_rfl) (by kernel_rfl) (fun _ _ _ h => h) (Or.inl ⟨by rfl, ?_⟩) hHeld ?_
    rotate_left
    · intro w' hSw
      obtain ⟨q0, q2, q3, q4, q5, q6, q7⟩ := hSw
      simp only [List.getElem_toArray, List.getElem_cons_zero, List.getElem_cons_succ]
      go_simp
      all_goals (try with_reducible rfl)
    try simp only [Act.put, List.setIfInBounds_toArray, List.set_cons_zero, List.set_cons_succ, List.getElem_toArray, List.getElem_cons_zero, List.getElem_cons_succ]
    refine wpAnyH_take (i := 1) (v := ?_) (by rfl) (by kernel_rfl) (by kernel_rfl) (by kernel_rfl) (fun _ _ _ h => h) (Or.inl ⟨by rfl, ?_⟩) hHeld ?_
    rotate_left
    · intro w' hSw
      obtain ⟨q0, q2, q3, q4, q5, q6, q7⟩ := hSw
      simp only [List.getElem_toArray, List.getElem_cons_zero, List.getElem_cons_succ]
      go_simp
      all_goals (try with_reducible rfl)
    try simp only [Act.put, List.setIfInBounds_toArray, List.set_cons_zero, List.set_cons_succ, List.getElem_toArray, List.getElem_cons_zero, List.getElem_cons_succ]
    refine wpAnyH_take (i := 2) (v := ?_) (by rfl) (by kernel_rfl) (by kernel_rfl) (by kernel_rfl) (fun _ _ _ h => h) (Or.inl ⟨by rfl, ?_⟩) hHeld ?_
    rotate_left
    · intro w' hSw
      obtain ⟨q0, q2, q3, q4, q5, q6, q7⟩ := hSw
      simp only [List.getElem_toArray, List.getElem_cons_zero, List.getElem_cons_succ]
      go_simp
      all_goals (try with_reducible rfl)
    try simp only [Act.put, List.setIfInBounds_toArray, List.set_cons_zero, List.set_cons_succ, List.getElem_toArray, List.getElem_cons_zero, List.getElem_cons_succ]
    refine wpAnyH_take (i := 3) (v := ?_) (by rfl) (by kernel_rfl) (by kernel_rfl) (by kernel_rfl) (fun _ _ _ h => h) (Or.inl ⟨by rfl, ?_⟩) hHeld ?_
    rotate_left
    · intro w' hSw
      obtain ⟨q0, q2, q3, q4, q5, q6, q7⟩ := hSw
      simp only [List.getElem_toArray, List.getElem_cons_zero, List.getElem_cons_succ]
      go_simp
      all_goals (try with_reducible rfl)
    try simp only [Act.put, List.setIfInBounds_toArray, List.set_cons_zero, List.set_cons_succ, List.getElem_toArray, List.getElem_cons_zero, List.getElem_cons_succ]
    refine wpAnyH_take (i := 4) (v := ?_) (by rfl) (by kernel_rfl) (by kernel_rfl) (by kernel_rfl) (fun _ _ _ h => h) (Or.inl ⟨by rfl, ?_⟩) hHeld ?_
    rotate_left
    · intro w' hSw
      obtain ⟨q0, q2, q3, q4, q5, q6, q7⟩ := hSw
      simp only [List.getElem_toArray, List.getElem_cons_zero, List.getElem_cons_succ]
      go_simp
      all_goals (try with_reducible rfl)
    try simp only [Act.put, List.setIfInBounds_toArray, List.set_cons_zero, List.set_cons_succ, List.getElem_toArray, List.getElem_cons_zero, List.getElem_cons_succ]
    refine wpAnyH_take (i := 5) (v := ?_) (by rfl) (by kernel_rfl) (by kernel_rfl) (by kernel_rfl) (fun _ _ _ h => h) (Or.inl ⟨by rfl, ?_⟩) hHeld ?_
    rotate_left
    · intro w' hSw
      obtain ⟨q0, q2, q3, q4, q5, q6, q7⟩ := hSw
      simp only [List.getElem_toArray, List.getElem_cons_zero, List.getElem_cons_succ]
      go_simp
      all_goals (try with_reducible rfl)
    try simp only [Act.put, List.setIfInBounds_toArray, List.set_cons_zero, List.set_cons_succ, List.getElem_toArray, List.getElem_cons_zero, List.getElem_cons_succ]
    refine wpAnyH_take (i := 6) (v := ?_) (by rfl) (by kernel_rfl) (by kernel_rfl) (by kernel_rfl) (fun _ _ _ h => h) (Or.inl ⟨by rfl, ?_⟩) hHeld ?_
    rotate_left
    · intro w' hSw
      obtain ⟨q0, q2, q3, q4, q5, q6, q7⟩ := hSw
      simp only [List.getElem_toArray, List.getElem_cons_zero, List.getElem_cons_succ]
      go_simp
      all_goals (try with_reducible rfl)
    try simp only [Act.put, List.setIfInBounds_toArray, List.set_cons_zero, List.set_cons_succ, List.getElem_toArray, List.getElem_cons_zero, List.getElem_cons_succ]
    refine wpAnyH_take (i := 7) (v := ?_) (by rfl) (by kernel_rfl) (by kernel_rfl) (by kernel_rfl) (fun _ _ _ h => h) (Or.inl ⟨by rfl, ?_⟩) hHeld ?_
    rotate_left
    · intro w' hSw
      obtain ⟨q0, q2, q3, q4, q5, q6, q7⟩ := hSw
      simp only [List.getElem_toArray, List.getElem_cons_zero, List.getElem_cons_succ]
      go_simp
      all_goals (try with_reducible rfl)
    try simp only [Act.put, List.setIfInBounds_toArray, List.set_cons_zero, List.set_cons_succ, List.getElem_toArray, List.getElem_cons_zero, List.getElem_cons_succ]
    refine wpAnyH_take (i := 8) (v := ?_) (by rfl) (by kernel_rfl) (by kernel_rfl) (by kernel_rfl) (fun _ _ _ h => h) (Or.inl ⟨by rfl, ?_⟩) hHeld ?_
    rotate_left
    · intro w' hSw
      obtain ⟨q0, q2, q3, q4, q5, q6, q7⟩ := hSw
      simp only [List.getElem_toArray, List.getElem_cons_zero, List.getElem_cons_succ]
      go_simp
      all_goals (try with_reducible rfl)
    try simp only [Act.put, List.setIfInBounds_toArray, List.set_cons_zero, List.set_cons_succ, List.getElem_toArray, List.getElem_cons_zero, List.getElem_cons_succ]
    refine wpAnyH_take (i := 9) (v := ?_) (by rfl) (by kernel_rfl) (by kernel_rfl) (by kernel_rfl) (fun _ _ _ h => h) (Or.inl ⟨by rfl, ?_⟩) hHeld ?_
    rotate_left
    · intro w' hSw
      obtain ⟨q0, q2, q3, q4, q5, q6, q7⟩ := hSw
      simp only [List.getElem_toArray, List.getElem_cons_zero, List.getElem_cons_succ]
      go_simp
      all_goals (try with_reducible rfl)
    try simp only [Act.put, List.setIfInBounds_toArray, List.set_cons_zero, List.set_cons_succ, List.getElem_toArray, List.getElem_cons_zero, List.getElem_cons_succ]
    refine wpAnyH_take (i := 10) (v := ?_) (by rfl) (by kernel_rfl) (by kernel_rfl) (by kernel_rfl) (fun _ _ _ h => h) (Or.inl ⟨by rfl, ?_⟩) hHeld ?_
    rotate_left
    · intro w' hSw
      obtain ⟨q0, q2, q3, q4, q5, q6, q7⟩ := hSw
      simp only [List.getElem_toArray, List.getElem_cons_zero, List.getElem_cons_succ]
      go_simp
      all_goals (try with_reducible rfl)
    try simp only [Act.put, List.setIfInBounds_toArray, List.set_cons_zero, List.set_cons_succ, List.getElem_toArray, List.getElem_cons_zero, List.getElem_cons_succ]
    refine wpAnyH_done (by kernel_rfl) ?_ _
    refine NoPanic.normal ?_
    clear hHeld
    clear HQ
    have hqb := BB.out.1
    obtain ⟨o, ho⟩ : ∃ o, q / 8 = o := ⟨_, rfl⟩
    obtain ⟨mo, hmo⟩ : ∃ mo, (q % 2 == 1) = mo := ⟨_, rfl⟩
    have HO : IntKind.u16.wrap (q.tdiv 8) = o := by
      rw [Int.tdiv_eq_ediv_of_nonneg hqb.1]
      simp [IntKind.wrap, IntKind.signed, IntKind.bits]
      omega
    have fo : Hid (f.off = o) := by rw [← ho]; exact HF.out.1
    have fm : Hid (f.more = mo) := by
      show f.more = mo
      rw [← hmo, HF.out.2.1]
      by_cases h : q % 2 = 1 <;> simp [h]
    obtain ⟨ZF, hZF⟩ : ∃ ZF : Array Value, ZF = #[.bool false, .int .u32 0, .int .u16 0, .bool false] := ⟨_, rfl⟩
    have Y1 := VY.out.newA ZF 27 (g := w1.heap.size) rfl
    have T := veil (store_all (P := Try.prog) (ty := 27) (vs := fgc { is := true, off := o, more := mo }) (Y1.at mem0) (by rw [hZF]; rfl) sizeFrag fgc_one)
    have Y2 := Y1.put 0 rfl (fgc { is := true, off := o, more := mo })
    simp only [List.set_cons_zero] at Y2
    have qs := below_setRow (below_new w1.drew (.cells ZF 27)) w1.heap.size (fgc { is := true, off := o, more := mo }).toArray (Nat.le_refl _)
    obtain ⟨u2, hu⟩ : ∃ u, (w1.drew.alloc (.cells ZF 27)).setRow w1.heap.size (fgc { is := true, off := o, more := mo }).toArray = u := ⟨_, rfl⟩
    rw [hu] at T Y2 qs
    have BF := veil (fun u => made_frag o mo u)
    have E3 := veil (E2.out.keep qs)
    have VY := veil Y2
    clear Y1 Y2 hu qs E2 ho
    subst hZF
    go_wp2_with (first
      | (refine wpList_build_of rfl _ _ rfl _ (by simp [Act.eval, Act.put, HO]) (BF.out _) ?_)
      | (refine wpList_store_of rfl _ _ rfl rfl rfl T.out ?_))
    clear T BF HO hmo
    generalize w1.heap.size = gf at *
    have c1 := VY.out.look (o := 1) mem0 rfl
    have f1 := VY.out.free mem0 1
    obtain ⟨id, hid⟩ : ∃ id, 256 * (256 * (256 * x4 + x5) + x6) + x7 = id := ⟨_, rfl⟩
    have HI : IntKind.u32.wrap (IntKind.u32.wrap (IntKind.u32.wrap (IntKind.u32.wrap (IntKind.u32.wrap x4 * 16777216) + IntKind.u32.wrap (IntKind.u32.wrap x5 * 65536)) + IntKind.u32.wrap (IntKind.u32.wrap x6 * 256)) + IntKind.u32.wrap x7) = id := by
      have := BB.out.2.2
      simp [IntKind.wrap, IntKind.signed, IntKind.bits]
      omega
    have ef : Hid (f = { is := true, id := id, off := o, more := mo }) := by
      have h1 := HF.out.2.2.1
      have h2 := HF.out.2.2.2
      rw [hid] at h1
      show f = _
      rw [← h1, ← h2, ← fo.out, ← fm.out]
    have Y1 := VY.out.cell 0 rfl 1 (.int .u32 id)
    have Y1 : Lay w (u2.setCell ⟨gf, 1, none⟩ (.int .u32 id)) [(gf, 27, fgc f), (w.heap.size, 54, ZL)] := by
      rw [ef.out]
      exact Y1
    have VZ := veil Y1.drew
    have hgf : Hid (a.block ≠ gf) := by
      have h1 := (VY.out.own _ mem0)
      have h2 := HB
      exact (fun e => by have := block_lt_of_cell E0w.out; simp only at h1; omega)
    have E4 := veil (show Eight (u2.setCell ⟨gf, 1, none⟩ (.int .u32 id)).drew a x0 x2 x3 x4 x5 x6 x7 from E3.out.set hgf.out 1 (.int .u32 id))
    have E3 := veil (show Eight u2.drew a x0 x2 x3 x4 x5 x6 x7 from E3.out)
    clear Y1
    refine wp_region_noPanic ?_
    refine wp_region_held_drew (S := (fun w' => Eight w' a x0 x2 x3 x4 x5 x6 x7)) (by kernel_rfl) E3.out (fun hHeld => ?_)
    refine wpAnyH_take (i := 0) (v := ?_) (by rfl) (by kernel_rfl) (by kernel_rfl) (by kernel_rfl) (fun _ _ _ h => h) (Or.inl ⟨by rfl, ?_⟩) hHeld ?_
    rotate_left
    · intro w' hSw
      obtain ⟨q0, q2, q3, q4, q5, q6, q7⟩ := hSw
      simp only [List.getElem_toArray, List.getElem_cons_zero, List.getElem_cons_succ]
      go_simp
      all_goals (try with_reducible rfl)
    try simp only [Act.put, List.setIfInBounds_toArray, List.set_cons_zero, List.set_cons_succ, List.getElem_toArray, List.getElem_cons_zero, List.getElem_cons_succ]
    refine wpAnyH_take (i := 1) (v := ?_) (by rfl) (by kernel_rfl) (by kernel_rfl) (by kernel_rfl) (fun _ _ _ h => h) (Or.inl ⟨by rfl, ?_⟩) hHeld ?_
    rotate_left
    · intro w' hSw
      obtain ⟨q0, q2, q3, q4, q5, q6, q7⟩ := hSw
      simp only [List.getElem_toArray, List.getElem_cons_zero, List.getElem_cons_succ]
      go_simp
      all_goals (try with_reducible rfl)
    try simp only [Act.put, List.setIfInBounds_toArray, List.set_cons_zero, List.set_cons_succ, List.getElem_toArray, List.getElem_cons_zero, List.getElem_cons_succ]
    refine wpAnyH_take (i := 2) (v := ?_) (by rfl) (by kernel_rfl) (by kernel_rfl) (by kernel_rfl) (fun _ _ _ h => h) (Or.inl ⟨by rfl, ?_⟩) hHeld ?_
    rotate_left
    · intro w' hSw
      obtain ⟨q0, q2, q3, q4, q5, q6, q7⟩ := hSw
      simp only [List.getElem_toArray, List.getElem_cons_zero, List.getElem_cons_succ]
      go_simp
      all_goals (try with_reducible rfl)
    try simp only [Act.put, List.setIfInBounds_toArray, List.set_cons_zero, List.set_cons_succ, List.getElem_toArray, List.getElem_cons_zero, List.getElem_cons_succ]
    refine wpAnyH_take (i := 3) (v := ?_) (by rfl) (by kernel_rfl) (by kernel_rfl) (by kernel_rfl) (fun _ _ _ h => h) (Or.inl ⟨by rfl, ?_⟩) hHeld ?_
    rotate_left
    · intro w' hSw
      obtain ⟨q0, q2, q3, q4, q5, q6, q7⟩ := hSw
      simp only [List.getElem_toArray, List.getElem_cons_zero, List.getElem_cons_succ]
      go_simp
      all_goals (try with_reducible rfl)
    try simp only [Act.put, List.setIfInBounds_toArray, List.set_cons_zero, List.set_cons_succ, List.getElem_toArray, List.getElem_cons_zero, List.getElem_cons_succ]
    refine wpAnyH_take (i := 4) (v := ?_) (by rfl) (by kernel_rfl) (by kernel_rfl) (by kernel_rfl) (fun _ _ _ h => h) (Or.inl ⟨by rfl, ?_⟩) hHeld ?_
    rotate_left
    · intro w' hSw
      obtain ⟨q0, q2, q3, q4, q5, q6, q7⟩ := hSw
      simp only [List.getElem_toArray, List.getElem_cons_zero, List.getElem_cons_succ]
      go_simp
      all_goals (try with_reducible rfl)
    try simp only [Act.put, List.setIfInBounds_toArray, List.set_cons_zero, List.set_cons_succ, List.getElem_toArray, List.getElem_cons_zero, List.getElem_cons_succ]
    refine wpAnyH_take (i := 5) (v := ?_) (by rfl) (by kernel_rfl) (by kernel_rfl) (by kernel_rfl) (fun _ _ _ h => h) (Or.inl ⟨by rfl, ?_⟩) hHeld ?_
    rotate_left
    · intro w' hSw
      obtain ⟨q0, q2, q3, q4, q5, q6, q7⟩ := hSw
      simp only [List.getElem_toArray, List.getElem_cons_zero, List.getElem_cons_succ]
      go_simp
      all_goals (try with_reducible rfl)
    try simp only [Act.put, List.setIfInBounds_toArray, List.set_cons_zero, List.set_cons_succ, List.getElem_toArray, List.getElem_cons_zero, List.getElem_cons_succ]
    refine wpAnyH_take (i := 6) (v := ?_) (by rfl) (by kernel_rfl) (by kernel_rfl) (by kernel_rfl) (fun _ _ _ h => h) (Or.inl ⟨by rfl, ?_⟩) hHeld ?_
    rotate_left
    · intro w' hSw
      obtain ⟨q0, q2, q3, q4, q5, q6, q7⟩ := hSw
      simp only [List.getElem_toArray, List.getElem_cons_zero, List.getElem_cons_succ]
      go_simp
      all_goals (try with_reducible rfl)
    try simp only [Act.put, List.setIfInBounds_toArray, List.set_cons_zero, List.set_cons_succ, List.getElem_toArray, List.getElem_cons_zero, List.getElem_cons_succ]
    refine wpAnyH_take (i := 7) (v := ?_) (by rfl) (by kernel_rfl) (by kernel_rfl) (by kernel_rfl) (fun _ _ _ h => h) (Or.inl ⟨by rfl, ?_⟩) hHeld ?_
    rotate_left
    · intro w' hSw
      obtain ⟨q0, q2, q3, q4, q5, q6, q7⟩ := hSw
      simp only [List.getElem_toArray, List.getElem_cons_zero, List.getElem_cons_succ]
      go_simp
      all_goals (try with_reducible rfl)
    try simp only [Act.put, List.setIfInBounds_toArray, List.set_cons_zero, List.set_cons_succ, List.getElem_toArray, List.getElem_cons_zero, List.getElem_cons_succ]
    refine wpAnyH_take (i := 8) (v := ?_) (by rfl) (by kernel_rfl) (by kernel_rfl) (by kernel_rfl) (fun _ _ _ h => h) (Or.inl ⟨by rfl, ?_⟩) hHeld ?_
    rotate_left
    · intro w' hSw
      obtain ⟨q0, q2, q3, q4, q5, q6, q7⟩ := hSw
      simp only [List.getElem_toArray, List.getElem_cons_zero, List.getElem_cons_succ]
      go_simp
      all_goals (try with_reducible rfl)
    try simp only [Act.put, List.setIfInBounds_toArray, List.set_cons_zero, List.set_cons_succ, List.getElem_toArray, List.getElem_cons_zero, List.getElem_cons_succ]
    refine wpAnyH_take (i := 9) (v := ?_) (by rfl) (by kernel_rfl) (by kernel_rfl) (by kernel_rfl) (fun _ _ _ h => h) (Or.inl ⟨by rfl, ?_⟩) hHeld ?_
    rotate_left
    · intro w' hSw
      obtain ⟨q0, q2, q3, q4, q5, q6, q7⟩ := hSw
      simp only [List.getElem_toArray, List.getElem_cons_zero, List.getElem_cons_succ]
      go_simp
      all_goals (try with_reducible rfl)
    try simp only [Act.put, List.setIfInBounds_toArray, List.set_cons_zero, List.set_cons_succ, List.getElem_toArray, List.getElem_cons_zero, List.getElem_cons_succ]
    refine wpAnyH_take (i := 10) (v := ?_) (by rfl) (by kernel_rfl) (by kernel_rfl) (by kernel_rfl) (fun _ _ _ h => h) (Or.inl ⟨by rfl, ?_⟩) hHeld ?_
    rotate_left
    · intro w' hSw
      obtain ⟨q0, q2, q3, q4, q5, q6, q7⟩ := hSw
      simp only [List.getElem_toArray, List.getElem_cons_zero, List.getElem_cons_succ]
      go_simp
      all_goals (try with_reducible rfl)
    try simp only [Act.put, List.setIfInBounds_toArray, List.set_cons_zero, List.set_cons_succ, List.getElem_toArray, List.getElem_cons_zero, List.getElem_cons_succ]
    refine wpAnyH_take (i := 11) (v := ?_) (by rfl) (by kernel_rfl) (by kernel_rfl) (by kernel_rfl) (fun _ _ _ h => h) (Or.inl ⟨by rfl, ?_⟩) hHeld ?_
    rotate_left
    · intro w' hSw
      obtain ⟨q0, q2, q3, q4, q5, q6, q7⟩ := hSw
      simp only [List.getElem_toArray, List.getElem_cons_zero, List.getElem_cons_succ]
      go_simp
      all_goals (try with_reducible rfl)
    try simp only [Act.put, List.setIfInBounds_toArray, List.set_cons_zero, List.set_cons_succ, List.getElem_toArray, List.getElem_cons_zero, List.getElem_cons_succ]
    refine wpAnyH_take (i := 12) (v := ?_) (by rfl) (by kernel_rfl) (by kernel_rfl) (by kernel_rfl) (fun _ _ _ h => h) (Or.inl ⟨by rfl, ?_⟩) hHeld ?_
    rotate_left
    · intro w' hSw
      obtain ⟨q0, q2, q3, q4, q5, q6, q7⟩ := hSw
      simp only [List.getElem_toArray, List.getElem_cons_zero, List.getElem_cons_succ]
      go_simp
      all_goals (try with_reducible rfl)
    try simp only [Act.put, List.setIfInBounds_toArray, List.set_cons_zero, List.set_cons_succ, List.getElem_toArray, List.getElem_cons_zero, List.getElem_cons_succ]
    refine wpAnyH_take (i := 13) (v := ?_) (by rfl) (by kernel_rfl) (by kernel_rfl) (by kernel_rfl) (fun _ _ _ h => h) (Or.inl ⟨by rfl, ?_⟩) hHeld ?_
    rotate_left
    · intro w' hSw
      obtain ⟨q0, q2, q3, q4, q5, q6, q7⟩ := hSw
      simp only [List.getElem_toArray, List.getElem_cons_zero, List.getElem_cons_succ]
      go_simp
      all_goals (try with_reducible rfl)
    try simp only [Act.put, List.setIfInBounds_toArray, List.set_cons_zero, List.set_cons_succ, List.getElem_toArray, List.getElem_cons_zero, List.getElem_cons_succ]
    refine wpAnyH_take (i := 14) (v := ?_) (by rfl) (by kernel_rfl) (by kernel_rfl) (by kernel_rfl) (fun _ _ _ h => h) (Or.inl ⟨by rfl, ?_⟩) hHeld ?_
    rotate_left
    · intro w' hSw
      obtain ⟨q0, q2, q3, q4, q5, q6, q7⟩ := hSw
      simp only [List.getElem_toArray, List.getElem_cons_zero, List.getElem_cons_succ]
      go_simp
      all_goals (try with_reducible rfl)
    try simp only [Act.put, List.setIfInBounds_toArray, List.set_cons_zero, List.set_cons_succ, List.getElem_toArray, List.getElem_cons_zero, List.getElem_cons_succ]
    refine wpAnyH_take (i := 15) (v := ?_) (by rfl) (by kernel_rfl) (by kernel_rfl) (by kernel_rfl) (fun _ _ _ h => h) (Or.inl ⟨by rfl, ?_⟩) hHeld ?_
    rotate_left
    · intro w' hSw
      obtain ⟨q0, q2, q3, q4, q5, q6, q7⟩ := hSw
      simp only [List.getElem_toArray, List.getElem_cons_zero, List.getElem_cons_succ]
      go_simp
      all_goals (try with_reducible rfl)
    try simp only [Act.put, List.setIfInBounds_toArray, List.set_cons_zero, List.set_cons_succ, List.getElem_toArray, List.getElem_cons_zero, List.getElem_cons_succ]
    refine wpAnyH_take (i := 16) (v := ?_) (by rfl) (by kernel_rfl) (by kernel_rfl) (by kernel_rfl) (fun _ _ _ h => h) (Or.inl ⟨by rfl, ?_⟩) hHeld ?_
    rotate_left
    · intro w' hSw
      obtain ⟨q0, q2, q3, q4, q5, q6, q7⟩ := hSw
      simp only [List.getElem_toArray, List.getElem_cons_zero, List.getElem_cons_succ]
      go_simp
      all_goals (try with_reducible rfl)
    try simp only [Act.put, List.setIfInBounds_toArray, List.set_cons_zero, List.set_cons_succ, List.getElem_toArray, List.getElem_cons_zero, List.getElem_cons_succ]
    refine wpAnyH_take (i := 17) (v := ?_) (by rfl) (by kernel_rfl) (by kernel_rfl) (by kernel_rfl) (fun _ _ _ h => h) (Or.inl ⟨by rfl, ?_⟩) hHeld ?_
    rotate_left
    · intro w' hSw
      obtain ⟨q0, q2, q3, q4, q5, q6, q7⟩ := hSw
      simp only [List.getElem_toArray, List.getElem_cons_zero, List.getElem_cons_succ]
      go_simp
      all_goals (try with_reducible rfl)
    try simp only [Act.put, List.setIfInBounds_toArray, List.set_cons_zero, List.set_cons_succ, List.getElem_toArray, List.getElem_cons_zero, List.getElem_cons_succ]
    refine wpAnyH_take (i := 18) (v := ?_) (by rfl) (by kernel_rfl) (by kernel_rfl) (by kernel_rfl) (fun _ _ _ h => h) (Or.inl ⟨by rfl, ?_⟩) hHeld ?_
    rotate_left
    · intro w' hSw
      obtain ⟨q0, q2, q3, q4, q5, q6, q7⟩ := hSw
      simp only [List.getElem_toArray, List.getElem_cons_zero, List.getElem_cons_succ]
      go_simp
      all_goals (try with_reducible rfl)
    try simp only [Act.put, List.setIfInBounds_toArray, List.set_cons_zero, List.set_cons_succ, List.getElem_toArray, List.getElem_cons_zero, List.getElem_cons_succ]
    refine wpAnyH_take (i := 19) (v := ?_) (by rfl) (by kernel_rfl) (by kernel_rfl) (by kernel_rfl) (fun _ _ _ h => h) (Or.inl ⟨by rfl, ?_⟩) hHeld ?_
    rotate_left
    · intro w' hSw
      obtain ⟨q0, q2, q3, q4, q5, q6, q7⟩ := hSw
      simp only [List.getElem_toArray, List.getElem_cons_zero, List.getElem_cons_succ]
      go_simp
      all_goals (try with_reducible rfl)
    try simp only [Act.put, List.setIfInBounds_toArray, List.set_cons_zero, List.set_cons_succ, List.getElem_toArray, List.getElem_cons_zero, List.getElem_cons_succ]
    refine wpAnyH_take (i := 20) (v := ?_) (by rfl) (by kernel_rfl) (by kernel_rfl) (by kernel_rfl) (fun _ _ _ h => h) (Or.inl ⟨by rfl, ?_⟩) hHeld ?_
    rotate_left
    · intro w' hSw
      obtain ⟨q0, q2, q3, q4, q5, q6, q7⟩ := hSw
      simp only [List.getElem_toArray, List.getElem_cons_zero, List.getElem_cons_succ]
      go_simp
      all_goals (try with_reducible rfl)
    try simp only [Act.put, List.setIfInBounds_toArray, List.set_cons_zero, List.set_cons_succ, List.getElem_toArray, List.getElem_cons_zero, List.getElem_cons_succ]
    refine wpAnyH_take (i := 21) (v := ?_) (by rfl) (by kernel_rfl) (by kernel_rfl) (by kernel_rfl) (fun _ _ _ h => h) (Or.inl ⟨by rfl, ?_⟩) hHeld ?_
    rotate_left
    · intro w' hSw
      obtain ⟨q0, q2, q3, q4, q5, q6, q7⟩ := hSw
      simp only [List.getElem_toArray, List.getElem_cons_zero, List.getElem_cons_succ]
      go_simp
      all_goals (try with_reducible rfl)
    try simp only [Act.put, List.setIfInBounds_toArray, List.set_cons_zero, List.set_cons_succ, List.getElem_toArray, List.getElem_cons_zero, List.getElem_cons_succ]
    refine wpAnyH_take (i := 22) (v := ?_) (by rfl) (by kernel_rfl) (by kernel_rfl) (by kernel_rfl) (fun _ _ _ h => h) (Or.inl ⟨by rfl, ?_⟩) hHeld ?_
    rotate_left
    · intro w' hSw
      obtain ⟨q0, q2, q3, q4, q5, q6, q7⟩ := hSw
      simp only [List.getElem_toArray, List.getElem_cons_zero, List.getElem_cons_succ]
      go_simp
      all_goals (try with_reducible rfl)
    try simp only [Act.put, List.setIfInBounds_toArray, List.set_cons_zero, List.set_cons_succ, List.getElem_toArray, List.getElem_cons_zero, List.getElem_cons_succ]
    refine wpAnyH_ready (rs := [23]) (by kernel_rfl) (by simp) ?_
    refine AllReadyH.cons (by rfl) (fun K hK => ?_) AllReadyH.nil
    simp only [List.getElem_toArray, List.getElem_cons_zero, List.getElem_cons_succ]
    go_simp
    (try dsimp only)
    refine hK.out _ _ E4.out (fun hHeld => ?_)
    clear hK K
    try simp only [Act.put, List.setIfInBounds_toArray, List.set_cons_zero, List.set_cons_succ, List.getElem_toArray, List.getElem_cons_zero, List.getElem_cons_succ]
    refine wpAnyH_done (by kernel_rfl) ?_ _
    refine NoPanic.normal ?_
    clear hHeld
    clear c1 f1 HI E3 VY BB
    have VY := veil VZ.out
    clear VZ
    generalize (u2.setCell ⟨gf, 1, none⟩ (.int .u32 id)).drew = w3 at *
    have c2 : w3.cell? ⟨gf, 2, none⟩ = some (.int .u16 o) := VY.out.look mem0 (by rw [← fo.out]; rfl)
    have c3 : w3.cell? ⟨gf, 3, none⟩ = some (.bool mo) := VY.out.look mem0 (by rw [← fm.out]; rfl)
    have hne2 : Hid (gf ≠ w.heap.size) := by
      have := VY.out.nd
      show gf ≠ w.heap.size
      simpa using this
    have hwp : IntKind.u64.wrap (p + 8) = p + 8 := by have := HP.out; rw [IntKind.wrap_u64]; omega
    have i8' : (8 : Int) ≤ (n : Int) := by omega
    have h8n : 8 ≤ n := by omega
    have i8c : (8 : Int) ≤ (c : Int) := by have := HC.out; omega
    clear ef HF hgf E0w hid h8
    by_cases hw : o = 0 ∧ mo = false
    · obtain ⟨ho0, hm0⟩ := hw
      have hR := VR.out
      rw [if_pos ⟨by rw [fo.out]; exact ho0, by rw [fm.out]; exact hm0⟩] at hR
      replace KW := veil (KW.out ⟨by rw [fo.out]; exact ho0, by rw [fm.out]; exact hm0⟩ hR)
      clear hR VR
      subst ho0 hm0
      generalize R = tR at *
      go_wp2_with fail
      clear c2 c3
      have VY := veil VY.out.drew
      have c1 := veil (show w3.drew.cell? a = some (.int .u8 x0) from E4.out.1)
      have VS := veil (slc_drop (HS.out.keep VY.out.below) h8n)
      clear E4
      rcases (by omega : c = 8 ∨ ¬ c = 8) with ec | ec
      · subst ec
        simp only [cutA, if_pos, Nat.sub_self] at KW VS
        refine wp_region_noPanic ?_
        refine wp_region_held_drew (S := (fun w' => w'.cell? a = some (.int .u8 x0))) (by kernel_rfl) c1.out (fun hHeld => ?_)
        refine wpAnyH_take (i := 0) (v := ?_) (by rfl) (by kernel_rfl) (by kernel_rfl) (by kernel_rfl) (fun _ _ _ h => h) (Or.inl ⟨by rfl, ?_⟩) hHeld ?_
        rotate_left
        · intro w' hSw
          (try dsimp only at hSw)
          simp only [List.getElem_toArray, List.getElem_cons_zero, List.getElem_cons_succ]
          go_simp
          all_goals (try with_reducible rfl)
        try simp only [Act.put, List.setIfInBounds_toArray, List.set_cons_zero, List.set_cons_succ, List.getElem_toArray, List.getElem_cons_zero, List.getElem_cons_succ]
        refine wpAnyH_take (i := 1) (v := ?_) (by rfl) (by kernel_rfl) (by kernel_rfl) (by kernel_rfl) (fun _ _ _ h => h) (Or.inl ⟨by rfl, ?_⟩) hHeld ?_
        rotate_left
        · intro w' hSw
          (try dsimp only at hSw)
          simp only [List.getElem_toArray, List.getElem_cons_zero, List.getElem_cons_succ]
          go_simp
          all_goals (try with_reducible rfl)
        try simp only [Act.put, List.setIfInBounds_toArray, List.set_cons_zero, List.set_cons_succ, List.getElem_toArray, List.getElem_cons_zero, List.getElem_cons_succ]
        refine wpAnyH_take (i := 2) (v := ?_) (by rfl) (by kernel_rfl) (by kernel_rfl) (by kernel_rfl) (fun _ _ _ h => h) (Or.inl ⟨by rfl, ?_⟩) hHeld ?_
        rotate_left
        · intro w' hSw
          (try dsimp only at hSw)
          simp only [List.getElem_toArray, List.getElem_cons_zero, List.getElem_cons_succ]
          go_simp
          all_goals (try with_reducible rfl)
        try simp only [Act.put, List.setIfInBounds_toArray, List.set_cons_zero, List.set_cons_succ, List.getElem_toArray, List.getElem_cons_zero, List.getElem_cons_succ]
        refine wpAnyH_take (i := 3) (v := ?_) (by rfl) (by kernel_rfl) (by kernel_rfl) (by kernel_rfl) (fun _ _ _ h => h) (Or.inl ⟨by rfl, ?_⟩) hHeld ?_
        rotate_left
        · intro w' hSw
          (try dsimp only at hSw)
          simp only [List.getElem_toArray, List.getElem_cons_zero, List.getElem_cons_succ]
          go_simp
          all_goals (try with_reducible rfl)
        try simp only [Act.put, List.setIfInBounds_toArray, List.set_cons_zero, List.set_cons_succ, List.getElem_toArray, List.getElem_cons_zero, List.getElem_cons_succ]
        refine wpAnyH_take (i := 4) (v := ?_) (by rfl) (by kernel_rfl) (by kernel_rfl) (by kernel_rfl) (fun _ _ _ h => h) (Or.inl ⟨by rfl, ?_⟩) hHeld ?_
        rotate_left
        · intro w' hSw
          (try dsimp only at hSw)
          simp only [List.getElem_toArray, List.getElem_cons_zero, List.getElem_cons_succ]
          go_simp
          all_goals (try with_reducible rfl)
        try simp only [Act.put, List.setIfInBounds_toArray, List.set_cons_zero, List.set_cons_succ, List.getElem_toArray, List.getElem_cons_zero, List.getElem_cons_succ]
        refine wpAnyH_take (i := 5) (v := ?_) (by rfl) (by kernel_rfl) (by kernel_rfl) (by kernel_rfl) (fun _ _ _ h => h) (Or.inl ⟨by rfl, ?_⟩) hHeld ?_
        rotate_left
        · intro w' hSw
          (try dsimp only at hSw)
          simp only [List.getElem_toArray, List.getElem_cons_zero, List.getElem_cons_succ]
          go_simp
          all_goals (try with_reducible rfl)
        try simp only [Act.put, List.setIfInBounds_toArray, List.set_cons_zero, List.set_cons_succ, List.getElem_toArray, List.getElem_cons_zero, List.getElem_cons_succ]
        refine wpAnyH_take (i := 6) (v := ?_) (by rfl) (by kernel_rfl) (by kernel_rfl) (by kernel_rfl) (fun _ _ _ h => h) (Or.inl ⟨by rfl, ?_⟩) hHeld ?_
        rotate_left
        · intro w' hSw
          (try dsimp only at hSw)
          simp only [List.getElem_toArray, List.getElem_cons_zero, List.getElem_cons_succ]
          go_simp
          all_goals (try with_reducible rfl)
        try simp only [Act.put, List.setIfInBounds_toArray, List.set_cons_zero, List.set_cons_succ, List.getElem_toArray, List.getElem_cons_zero, List.getElem_cons_succ]
        refine wpAnyH_take (i := 7) (v := ?_) (by rfl) (by kernel_rfl) (by kernel_rfl) (by kernel_rfl) (fun _ _ _ h => h) (Or.inl ⟨by rfl, ?_⟩) hHeld ?_
        rotate_left
        · intro w' hSw
          (try dsimp only at hSw)
          simp only [List.getElem_toArray, List.getElem_cons_zero, List.getElem_cons_succ]
          go_simp
          all_goals (try with_reducible rfl)
        try simp only [Act.put, List.setIfInBounds_toArray, List.set_cons_zero, List.set_cons_succ, List.getElem_toArray, List.getElem_cons_zero, List.getElem_cons_succ]
        refine wpAnyH_take (i := 8) (v := ?_) (by rfl) (by kernel_rfl) (by kernel_rfl) (by kernel_rfl) (fun _ _ _ h => h) (Or.inl ⟨by rfl, ?_⟩) hHeld ?_
        rotate_left
        · intro w' hSw
          (try dsimp only at hSw)
          simp only [List.getElem_toArray, List.getElem_cons_zero, List.getElem_cons_succ]
          go_simp
          all_goals (try with_reducible rfl)
        try simp only [Act.put, List.setIfInBounds_toArray, List.set_cons_zero, List.set_cons_succ, List.getElem_toArray, List.getElem_cons_zero, List.getElem_cons_succ]
        refine wpAnyH_take (i := 9) (v := ?_) (by rfl) (by kernel_rfl) (by kernel_rfl) (by kernel_rfl) (fun _ _ _ h => h) (Or.inl ⟨by rfl, ?_⟩) hHeld ?_
        rotate_left
        · intro w' hSw
          (try dsimp only at hSw)
          simp only [List.getElem_toArray, List.getElem_cons_zero, List.getElem_cons_succ]
          go_simp
          all_goals (try with_reducible rfl)
        try simp only [Act.put, List.setIfInBounds_toArray, List.set_cons_zero, List.set_cons_succ, List.getElem_toArray, List.getElem_cons_zero, List.getElem_cons_succ]
        refine wpAnyH_ready (rs := [10]) (by kernel_rfl) (by simp) ?_
        refine AllReadyH.cons (by rfl) (fun K hK => ?_) AllReadyH.nil
        simp only [List.getElem_toArray, List.getElem_cons_zero, List.getElem_cons_succ]
        go_simp
        refine (KW.out _ VS.out).mono ?_
        rintro e w2 ⟨A2, n2, c2', rfl, hs2, hf2, q⟩
        have hoff : Off A2 w.heap.size := fun b hb e => by have := hf2 b hb; have := VY.out.lt mem1; omega
        have Y1 := VY.out.keep q
        have c2 := veil (show w2.cell? a = some (.int .u8 x0) from (q.cell (block_lt_of_cell c1.out)).trans c1.out)
        have T := veil (told_store (t := tR) (v := .slice A2 n2 c2') Y1 mem1 hz.out rfl)
        have c3 := veil (cell_setRow c2.out hne.out (tc tR (.slice A2 n2 c2')).toArray)
        have S3 := veil (hs2.setRow hoff (tc tR (.slice A2 n2 c2')).toArray)
        have Y2 := veil (Y1.put 1 rfl (tc tR (.slice A2 n2 c2')))
        simp only [List.set_cons_zero, List.set_cons_succ] at Y2
        have hf3 : Hid (∀ b, A2 = some b → w.heap.size ≤ b.block) := fun b hb => Nat.le_trans VY.out.size (hf2 b hb)
        clear q Y1 KW hs2 hf2 hoff
        (try dsimp only)
        refine hK.out _ _ c2.out (fun hHeld => ?_)
        clear hK K
        try simp only [Act.put, List.setIfInBounds_toArray, List.set_cons_zero, List.set_cons_succ, List.getElem_toArray, List.getElem_cons_zero, List.getElem_cons_succ]
        refine wpAnyH_ready (rs := [11]) (by kernel_rfl) (by simp) ?_
        refine AllReadyH.cons (by rfl) (fun K hK => ?_) AllReadyH.nil
        simp only [List.getElem_toArray, List.getElem_cons_zero, List.getElem_cons_succ]
        refine wp_store_of (.tmp 14) (.tmp 175) rfl rfl rfl T.out ?_
        (try dsimp only)
        refine hK.out _ _ c3.out (fun hHeld => ?_)
        clear hK K
        try simp only [Act.put, List.setIfInBounds_toArray, List.set_cons_zero, List.set_cons_succ, List.getElem_toArray, List.getElem_cons_zero, List.getElem_cons_succ]
        refine wpAnyH_done (by kernel_rfl) ?_ _
        refine NoPanic.normal ?_
        clear hHeld
        go_wp2_with fail
        refine bodyPost_ret (told_ret Y2.out mem1 rfl rfl) rfl ?_
        exact ⟨A2, n2, c2', rfl, S3.out, hf3.out, Y2.out.below⟩
      · simp only [cutA, if_neg ec] at KW VS
        refine wp_region_noPanic ?_
        refine wp_region_held_drew (S := (fun w' => w'.cell? a = some (.int .u8 x0))) (by kernel_rfl) c1.out (fun hHeld => ?_)
        refine wpAnyH_take (i := 0) (v := ?_) (by rfl) (by kernel_rfl) (by kernel_rfl) (by kernel_rfl) (fun _ _ _ h => h) (Or.inl ⟨by rfl, ?_⟩) hHeld ?_
        rotate_left
        · intro w' hSw
          (try dsimp only at hSw)
          simp only [List.getElem_toArray, List.getElem_cons_zero, List.getElem_cons_succ]
          go_simp
          all_goals (try with_reducible rfl)
        try simp only [Act.put, List.setIfInBounds_toArray, List.set_cons_zero, List.set_cons_succ, List.getElem_toArray, List.getElem_cons_zero, List.getElem_cons_succ]
        refine wpAnyH_take (i := 1) (v := ?_) (by rfl) (by kernel_rfl) (by kernel_rfl) (by kernel_rfl) (fun _ _ _ h => h) (Or.inl ⟨by rfl, ?_⟩) hHeld ?_
        rotate_left
        · intro w' hSw
          (try dsimp only at hSw)
          simp only [List.getElem_toArray, List.getElem_cons_zero, List.getElem_cons_succ]
          go_simp
          all_goals (try with_reducible rfl)
        try simp only [Act.put, List.setIfInBounds_toArray, List.set_cons_zero, List.set_cons_succ, List.getElem_toArray, List.getElem_cons_zero, List.getElem_cons_succ]
        refine wpAnyH_take (i := 2) (v := ?_) (by rfl) (by kernel_rfl) (by kernel_rfl) (by kernel_rfl) (fun _ _ _ h => h) (Or.inl ⟨by rfl, ?_⟩) hHeld ?_
        rotate_left
        · intro w' hSw
          (try dsimp only at hSw)
          simp only [List.getElem_toArray, List.getElem_cons_zero, List.getElem_cons_succ]
          go_simp
          all_goals (try with_reducible rfl)
        try simp only [Act.put, List.setIfInBounds_toArray, List.set_cons_zero, List.set_cons_succ, List.getElem_toArray, List.getElem_cons_zero, List.getElem_cons_succ]
        refine wpAnyH_take (i := 3) (v := ?_) (by rfl) (by kernel_rfl) (by kernel_rfl) (by kernel_rfl) (fun _ _ _ h => h) (Or.inl ⟨by rfl, ?_⟩) hHeld ?_
        rotate_left
        · intro w' hSw
          (try dsimp only at hSw)
          simp only [List.getElem_toArray, List.getElem_cons_zero, List.getElem_cons_succ]
          go_simp
          all_goals (try with_reducible rfl)
        try simp only [Act.put, List.setIfInBounds_toArray, List.set_cons_zero, List.set_cons_succ, List.getElem_toArray, List.getElem_cons_zero, List.getElem_cons_succ]
        refine wpAnyH_take (i := 4) (v := ?_) (by rfl) (by kernel_rfl) (by kernel_rfl) (by kernel_rfl) (fun _ _ _ h => h) (Or.inl ⟨by rfl, ?_⟩) hHeld ?_
        rotate_left
        · intro w' hSw
          (try dsimp only at hSw)
          simp only [List.getElem_toArray, List.getElem_cons_zero, List.getElem_cons_succ]
          go_simp
          all_goals (try with_reducible rfl)
        try simp only [Act.put, List.setIfInBounds_toArray, List.set_cons_zero, List.set_cons_succ, List.getElem_toArray, List.getElem_cons_zero, List.getElem_cons_succ]
        refine wpAnyH_take (i := 5) (v := ?_) (by rfl) (by kernel_rfl) (by kernel_rfl) (by kernel_rfl) (fun _ _ _ h => h) (Or.inl ⟨by rfl, ?_⟩) hHeld ?_
        rotate_left
        · intro w' hSw
          (try dsimp only at hSw)
          simp only [List.getElem_toArray, List.getElem_cons_zero, List.getElem_cons_succ]
          go_simp
          all_goals (try with_reducible rfl)
        try simp only [Act.put, List.setIfInBounds_toArray, List.set_cons_zero, List.set_cons_succ, List.getElem_toArray, List.getElem_cons_zero, List.getElem_cons_succ]
        refine wpAnyH_take (i := 6) (v := ?_) (by rfl) (by kernel_rfl) (by kernel_rfl) (by kernel_rfl) (fun _ _ _ h => h) (Or.inl ⟨by rfl, ?_⟩) hHeld ?_
        rotate_left
        · intro w' hSw
          (try dsimp only at hSw)
          simp only [List.getElem_toArray, List.getElem_cons_zero, List.getElem_cons_succ]
          go_simp
          all_goals (try with_reducible rfl)
        try simp only [Act.put, List.setIfInBounds_toArray, List.set_cons_zero, List.set_cons_succ, List.getElem_toArray, List.getElem_cons_zero, List.getElem_cons_succ]
        refine wpAnyH_take (i := 7) (v := ?_) (by rfl) (by kernel_rfl) (by kernel_rfl) (by kernel_rfl) (fun _ _ _ h => h) (Or.inl ⟨by rfl, ?_⟩) hHeld ?_
        rotate_left
        · intro w' hSw
          (try dsimp only at hSw)
          simp only [List.getElem_toArray, List.getElem_cons_zero, List.getElem_cons_succ]
          go_simp
          all_goals (try with_reducible rfl)
        try simp only [Act.put, List.setIfInBounds_toArray, List.set_cons_zero, List.set_cons_succ, List.getElem_toArray, List.getElem_cons_zero, List.getElem_cons_succ]
        refine wpAnyH_take (i := 8) (v := ?_) (by rfl) (by kernel_rfl) (by kernel_rfl) (by kernel_rfl) (fun _ _ _ h => h) (Or.inl ⟨by rfl, ?_⟩) hHeld ?_
        rotate_left
        · intro w' hSw
          (try dsimp only at hSw)
          simp only [List.getElem_toArray, List.getElem_cons_zero, List.getElem_cons_succ]
          go_simp
          all_goals (try with_reducible rfl)
        try simp only [Act.put, List.setIfInBounds_toArray, List.set_cons_zero, List.set_cons_succ, List.getElem_toArray, List.getElem_cons_zero, List.getElem_cons_succ]
        refine wpAnyH_take (i := 9) (v := ?_) (by rfl) (by kernel_rfl) (by kernel_rfl) (by kernel_rfl) (fun _ _ _ h => h) (Or.inl ⟨by rfl, ?_⟩) hHeld ?_
        rotate_left
        · intro w' hSw
          (try dsimp only at hSw)
          simp only [List.getElem_toArray, List.getElem_cons_zero, List.getElem_cons_succ]
          go_simp
          all_goals (try with_reducible rfl)
        try simp only [Act.put, List.setIfInBounds_toArray, List.set_cons_zero, List.set_cons_succ, List.getElem_toArray, List.getElem_cons_zero, List.getElem_cons_succ]
        refine wpAnyH_ready (rs := [10]) (by kernel_rfl) (by simp) ?_
        refine AllReadyH.cons (by rfl) (fun K hK => ?_) AllReadyH.nil
        simp only [List.getElem_toArray, List.getElem_cons_zero, List.getElem_cons_succ]
        go_simp
        refine (KW.out _ VS.out).mono ?_
        rintro e w2 ⟨A2, n2, c2', rfl, hs2, hf2, q⟩
        have hoff : Off A2 w.heap.size := fun b hb e => by have := hf2 b hb; have := VY.out.lt mem1; omega
        have Y1 := VY.out.keep q
        have c2 := veil (show w2.cell? a = some (.int .u8 x0) from (q.cell (block_lt_of_cell c1.out)).trans c1.out)
        have T := veil (told_store (t := tR) (v := .slice A2 n2 c2') Y1 mem1 hz.out rfl)
        have c3 := veil (cell_setRow c2.out hne.out (tc tR (.slice A2 n2 c2')).toArray)
        have S3 := veil (hs2.setRow hoff (tc tR (.slice A2 n2 c2')).toArray)
        have Y2 := veil (Y1.put 1 rfl (tc tR (.slice A2 n2 c2')))
        simp only [List.set_cons_zero, List.set_cons_succ] at Y2
        have hf3 : Hid (∀ b, A2 = some b → w.heap.size ≤ b.block) := fun b hb => Nat.le_trans VY.out.size (hf2 b hb)
        clear q Y1 KW hs2 hf2 hoff
        (try dsimp only)
        refine hK.out _ _ c2.out (fun hHeld => ?_)
        clear hK K
        try simp only [Act.put, List.setIfInBounds_toArray, List.set_cons_zero, List.set_cons_succ, List.getElem_toArray, List.getElem_cons_zero, List.getElem_cons_succ]
        refine wpAnyH_ready (rs := [11]) (by kernel_rfl) (by simp) ?_
        refine AllReadyH.cons (by rfl) (fun K hK => ?_) AllReadyH.nil
        simp only [List.getElem_toArray, List.getElem_cons_zero, List.getElem_cons_succ]
        refine wp_store_of (.tmp 14) (.tmp 175) rfl rfl rfl T.out ?_
        (try dsimp only)
        refine hK.out _ _ c3.out (fun hHeld => ?_)
        clear hK K
        try simp only [Act.put, List.setIfInBounds_toArray, List.set_cons_zero, List.set_cons_succ, List.getElem_toArray, List.getElem_cons_zero, List.getElem_cons_succ]
        refine wpAnyH_done (by kernel_rfl) ?_ _
        refine NoPanic.normal ?_
        clear hHeld
        go_wp2_with fail
        refine bodyPost_ret (told_ret Y2.out mem1 rfl rfl) rfl ?_
        exact ⟨A2, n2, c2', rfl, S3.out, hf3.out, Y2.out.below⟩
    · have hR := VR.out
      rw [if_neg (by rw [fo.out, fm.out]; exact hw)] at hR
      clear VR KW
      subst hR
      have hcase : ¬ o = 0 ∨ (o = 0 ∧ mo = true) := by
        by_cases h : o = 0
        · refine .inr ⟨h, ?_⟩
          cases mo with
          | true => rfl
          | false => exact absurd ⟨h, rfl⟩ hw
        · exact .inl h
      clear hw
      rcases hcase with h0 | ⟨h0, h1⟩
      · have fz : (o == 0) = false := by simpa using h0
        go_wp2_with fail
        clear c2 c3
        have VY := veil VY.out.drew
        have c1 := veil (show w3.drew.cell? a = some (.int .u8 x0) from E4.out.1)
        have VS := slc_drop (HS.out.keep VY.out.below) h8n
        obtain ⟨v5, w5, h5, G5⟩ := (Grow.begin VY.out).append VS (by simp [HL.out]; omega) 28
        obtain ⟨A5, c5, e5, r5, k5⟩ := G5.own.slc.slice
        subst e5
        have hsl := G5.own.slc
        generalize ([] ++ zs.drop 8).length = n5 at *
        rw [List.nil_append] at hsl
        have hfr : Hid (∀ b, A5 = some b → w.heap.size ≤ b.block) := fun b hb => by
          subst hb
          have h1 := (World.ownsRow.lt G5.own b.block rfl).1
          have h2 := VY.out.size
          exact Nat.le_trans h2 h1
        have hoff : Off A5 w.heap.size := fun b hb e => by
          subst hb
          have h1 := (World.ownsRow.lt G5.own b.block rfl).1
          have h2 := VY.out.lt mem1
          omega
        have c2 := veil (show w5.cell? a = some (.int .u8 x0) by
          have h := HR.out.keep G5.lay.below 0 (by rw [HL.out]; omega)
          have h0 := HR.out.keep VY.out.below 0 (by rw [HL.out]; omega)
          obtain ⟨_, e1, hc1⟩ := h
          obtain ⟨_, e2, hc2⟩ := h0
          injection e1 with e1
          injection e2 with e2
          subst e1 e2
          have hx := c1.out.symm.trans hc2
          rw [hx]
          exact hc1)
        have T := veil (told_store (t := { last := x0, rest := zs.drop 8, alert := al, frag := f }) (v := .slice A5 n5 c5) G5.lay mem1 hz.out rfl)
        have S3 := veil (hsl.setRow hoff (tc { last := x0, rest := zs.drop 8, alert := al, frag := f } (.slice A5 n5 c5)).toArray)
        have c3 := veil (cell_setRow c2.out hne.out (tc { last := x0, rest := zs.drop 8, alert := al, frag := f } (.slice A5 n5 c5)).toArray)
        have Y2 := veil (G5.lay.put 1 rfl (tc { last := x0, rest := zs.drop 8, alert := al, frag := f } (.slice A5 n5 c5)))
        simp only [List.set_cons_zero, List.set_cons_succ] at Y2
        have g1 := veil (VY.out.range mem0 (part_all _))
        have g2 := veil (G5.lay.range mem0 (part_all _))
        have g3 := veil (Y2.out.range mem0 (part_all _))
        have hrr : Hid (({ last := x0, rest := zs.drop 8, alert := al, frag := f } : Tl).rest = zs.drop 8) := rfl
        have B := veil (fun u => made_part x0 A5 n5 c5 al (zs.drop 8) f u)
        have h5' := h5
        generalize ({ last := x0, rest := zs.drop 8, alert := al, frag := f } : Tl) = te at *
        clear VS G5 r5 k5 hsl hoff h5 E4
        rcases (by omega : c = 8 ∨ ¬ c = 8) with ec | ec
        · subst ec
          simp only [cutA, if_pos, Nat.sub_self] at h5'
          have H5 := veil h5'
          clear h5'
          refine wp_region_noPanic ?_
          refine wp_region_held_drew (S := (fun w' => w'.cell? a = some (.int .u8 x0) ∧ w'.rangeAt gf 0 (fgc f))) (by kernel_rfl) ⟨c1.out, g1.out⟩ (fun hHeld => ?_)
          refine wpAnyH_take (i := 0) (v := ?_) (by rfl) (by kernel_rfl) (by kernel_rfl) (by kernel_rfl) (fun _ _ _ h => h) (Or.inl ⟨by rfl, ?_⟩) hHeld ?_
          rotate_left
          · intro w' hSw
            (try dsimp only at hSw)
            simp only [List.getElem_toArray, List.getElem_cons_zero, List.getElem_cons_succ]
            go_simp
            all_goals (try with_reducible rfl)
          try simp only [Act.put, List.setIfInBounds_toArray, List.set_cons_zero, List.set_cons_succ, List.getElem_toArray, List.getElem_cons_zero, List.getElem_cons_succ]
          refine wpAnyH_take (i := 1) (v := ?_) (by rfl) (by kernel_rfl) (by kernel_rfl) (by kernel_rfl) (fun _ _ _ h => h) (Or.inl ⟨by rfl, ?_⟩) hHeld ?_
          rotate_left
          · intro w' hSw
            (try dsimp only at hSw)
            simp only [List.getElem_toArray, List.getElem_cons_zero, List.getElem_cons_succ]
            go_simp
            all_goals (try with_reducible rfl)
          try simp only [Act.put, List.setIfInBounds_toArray, List.set_cons_zero, List.set_cons_succ, List.getElem_toArray, List.getElem_cons_zero, List.getElem_cons_succ]
          refine wpAnyH_take (i := 2) (v := ?_) (by rfl) (by kernel_rfl) (by kernel_rfl) (by kernel_rfl) (fun _ _ _ h => h) (Or.inl ⟨by rfl, ?_⟩) hHeld ?_
          rotate_left
          · intro w' hSw
            (try dsimp only at hSw)
            simp only [List.getElem_toArray, List.getElem_cons_zero, List.getElem_cons_succ]
            go_simp
            all_goals (try with_reducible rfl)
          try simp only [Act.put, List.setIfInBounds_toArray, List.set_cons_zero, List.set_cons_succ, List.getElem_toArray, List.getElem_cons_zero, List.getElem_cons_succ]
          refine wpAnyH_take (i := 3) (v := ?_) (by rfl) (by kernel_rfl) (by kernel_rfl) (by kernel_rfl) (fun _ _ _ h => h) (Or.inl ⟨by rfl, ?_⟩) hHeld ?_
          rotate_left
          · intro w' hSw
            (try dsimp only at hSw)
            simp only [List.getElem_toArray, List.getElem_cons_zero, List.getElem_cons_succ]
            go_simp
            all_goals (try with_reducible rfl)
          try simp only [Act.put, List.setIfInBounds_toArray, List.set_cons_zero, List.set_cons_succ, List.getElem_toArray, List.getElem_cons_zero, List.getElem_cons_succ]
          refine wpAnyH_take (i := 4) (v := ?_) (by rfl) (by kernel_rfl) (by kernel_rfl) (by kernel_rfl) (fun _ _ _ h => h) (Or.inl ⟨by rfl, ?_⟩) hHeld ?_
          rotate_left
          · intro w' hSw
            (try dsimp only at hSw)
            simp only [List.getElem_toArray, List.getElem_cons_zero, List.getElem_cons_succ]
            go_simp
            all_goals (try with_reducible rfl)
          try simp only [Act.put, List.setIfInBounds_toArray, List.set_cons_zero, List.set_cons_succ, List.getElem_toArray, List.getElem_cons_zero, List.getElem_cons_succ]
          refine wpAnyH_take (i := 6) (v := ?_) (by rfl) (by kernel_rfl) (by kernel_rfl) (by kernel_rfl) (fun _ _ _ h => h) (Or.inl ⟨by rfl, ?_⟩) hHeld ?_
          rotate_left
          · intro w' hSw
            (try dsimp only at hSw)
            simp only [List.getElem_toArray, List.getElem_cons_zero, List.getElem_cons_succ]
            go_simp
            all_goals (try with_reducible rfl)
          try simp only [Act.put, List.setIfInBounds_toArray, List.set_cons_zero, List.set_cons_succ, List.getElem_toArray, List.getElem_cons_zero, List.getElem_cons_succ]
          refine wpAnyH_take (i := 7) (v := _) (by rfl) (by kernel_rfl) (by kernel_rfl) (by kernel_rfl) (fun _ _ _ h => h) (yieldsIf_load_mid (by rfl) _ _ (by rfl) _ _ rfl (fgc f) _ (fun _ h => h.2) Try.underlying27 rfl sizeFrag) hHeld ?_
          try simp only [Act.put, List.setIfInBounds_toArray, List.set_cons_zero, List.set_cons_succ, List.getElem_toArray, List.getElem_cons_zero, List.getElem_cons_succ]
          refine wpAnyH_ready (rs := [5]) (by kernel_rfl) (by simp) ?_
          refine AllReadyH.cons (by rfl) (fun K hK => ?_) AllReadyH.nil
          simp only [List.getElem_toArray, List.getElem_cons_zero, List.getElem_cons_succ]
          refine wp_append_of (.const (.slice none 0 0)) (.tmp 180) rfl rfl rfl H5.out ?_
          (try dsimp only)
          refine hK.out _ _ ⟨c2.out, g2.out⟩ (fun hHeld => ?_)
          clear hK K
          try simp only [Act.put, List.setIfInBounds_toArray, List.set_cons_zero, List.set_cons_succ, List.getElem_toArray, List.getElem_cons_zero, List.getElem_cons_succ]
          refine wpAnyH_take (i := 8) (v := _) (by rfl) (by kernel_rfl) (by kernel_rfl) (by kernel_rfl) (fun _ _ _ h => h) (yieldsIf_build (by rfl) _ _ rfl _ (by simp [Act.eval]) (fun u => B.out u)) hHeld ?_
          try simp only [Act.put, List.setIfInBounds_toArray, List.set_cons_zero, List.set_cons_succ, List.getElem_toArray, List.getElem_cons_zero, List.getElem_cons_succ]
          refine wpAnyH_ready (rs := [9]) (by kernel_rfl) (by simp) ?_
          refine AllReadyH.cons (by rfl) (fun K hK => ?_) AllReadyH.nil
          simp only [List.getElem_toArray, List.getElem_cons_zero, List.getElem_cons_succ]
          refine wp_store_of (.tmp 14) (.tmp 184) rfl rfl rfl T.out ?_
          (try dsimp only)
          refine hK.out _ _ ⟨c3.out, g3.out⟩ (fun hHeld => ?_)
          clear hK K
          try simp only [Act.put, List.setIfInBounds_toArray, List.set_cons_zero, List.set_cons_succ, List.getElem_toArray, List.getElem_cons_zero, List.getElem_cons_succ]
          refine wpAnyH_done (by kernel_rfl) ?_ _
          refine NoPanic.normal ?_
          clear hHeld
          go_wp2_with fail
          refine bodyPost_ret (told_ret Y2.out mem1 rfl rfl) rfl ?_
          exact ⟨A5, n5, c5, rfl, by rw [hrr.out]; exact S3.out, hfr.out, Y2.out.below⟩
        · simp only [cutA, if_neg ec] at h5'
          have H5 := veil h5'
          clear h5'
          refine wp_region_noPanic ?_
          refine wp_region_held_drew (S := (fun w' => w'.cell? a = some (.int .u8 x0) ∧ w'.rangeAt gf 0 (fgc f))) (by kernel_rfl) ⟨c1.out, g1.out⟩ (fun hHeld => ?_)
          refine wpAnyH_take (i := 0) (v := ?_) (by rfl) (by kernel_rfl) (by kernel_rfl) (by kernel_rfl) (fun _ _ _ h => h) (Or.inl ⟨by rfl, ?_⟩) hHeld ?_
          rotate_left
          · intro w' hSw
            (try dsimp only at hSw)
            simp only [List.getElem_toArray, List.getElem_cons_zero, List.getElem_cons_succ]
            go_simp
            all_goals (try with_reducible rfl)
          try simp only [Act.put, List.setIfInBounds_toArray, List.set_cons_zero, List.set_cons_succ, List.getElem_toArray, List.getElem_cons_zero, List.getElem_cons_succ]
          refine wpAnyH_take (i := 1) (v := ?_) (by rfl) (by kernel_rfl) (by kernel_rfl) (by kernel_rfl) (fun _ _ _ h => h) (Or.inl ⟨by rfl, ?_⟩) hHeld ?_
          rotate_left
          · intro w' hSw
            (try dsimp only at hSw)
            simp only [List.getElem_toArray, List.getElem_cons_zero, List.getElem_cons_succ]
            go_simp
            all_goals (try with_reducible rfl)
          try simp only [Act.put, List.setIfInBounds_toArray, List.set_cons_zero, List.set_cons_succ, List.getElem_toArray, List.getElem_cons_zero, List.getElem_cons_succ]
          refine wpAnyH_take (i := 2) (v := ?_) (by rfl) (by kernel_rfl) (by kernel_rfl) (by kernel_rfl) (fun _ _ _ h => h) (Or.inl ⟨by rfl, ?_⟩) hHeld ?_
          rotate_left
          · intro w' hSw
            (try dsimp only at hSw)
            simp only [List.getElem_toArray, List.getElem_cons_zero, List.getElem_cons_succ]
            go_simp
            all_goals (try with_reducible rfl)
          try simp only [Act.put, List.setIfInBounds_toArray, List.set_cons_zero, List.set_cons_succ, List.getElem_toArray, List.getElem_cons_zero, List.getElem_cons_succ]
          refine wpAnyH_take (i := 3) (v := ?_) (by rfl) (by kernel_rfl) (by kernel_rfl) (by kernel_rfl) (fun _ _ _ h => h) (Or.inl ⟨by rfl, ?_⟩) hHeld ?_
          rotate_left
          · intro w' hSw
            (try dsimp only at hSw)
            simp only [List.getElem_toArray, List.getElem_cons_zero, List.getElem_cons_succ]
            go_simp
            all_goals (try with_reducible rfl)
          try simp only [Act.put, List.setIfInBounds_toArray, List.set_cons_zero, List.set_cons_succ, List.getElem_toArray, List.getElem_cons_zero, List.getElem_cons_succ]
          refine wpAnyH_take (i := 4) (v := ?_) (by rfl) (by kernel_rfl) (by kernel_rfl) (by kernel_rfl) (fun _ _ _ h => h) (Or.inl ⟨by rfl, ?_⟩) hHeld ?_
          rotate_left
          · intro w' hSw
            (try dsimp only at hSw)
            simp only [List.getElem_toArray, List.getElem_cons_zero, List.getElem_cons_succ]
            go_simp
            all_goals (try with_reducible rfl)
          try simp only [Act.put, List.setIfInBounds_toArray, List.set_cons_zero, List.set_cons_succ, List.getElem_toArray, List.getElem_cons_zero, List.getElem_cons_succ]
          refine wpAnyH_take (i := 6) (v := ?_) (by rfl) (by kernel_rfl) (by kernel_rfl) (by kernel_rfl) (fun _ _ _ h => h) (Or.inl ⟨by rfl, ?_⟩) hHeld ?_
          rotate_left
          · intro w' hSw
            (try dsimp only at hSw)
            simp only [List.getElem_toArray, List.getElem_cons_zero, List.getElem_cons_succ]
            go_simp
            all_goals (try with_reducible rfl)
          try simp only [Act.put, List.setIfInBounds_toArray, List.set_cons_zero, List.set_cons_succ, List.getElem_toArray, List.getElem_cons_zero, List.getElem_cons_succ]
          refine wpAnyH_take (i := 7) (v := _) (by rfl) (by kernel_rfl) (by kernel_rfl) (by kernel_rfl) (fun _ _ _ h => h) (yieldsIf_load_mid (by rfl) _ _ (by rfl) _ _ rfl (fgc f) _ (fun _ h => h.2) Try.underlying27 rfl sizeFrag) hHeld ?_
          try simp only [Act.put, List.setIfInBounds_toArray, List.set_cons_zero, List.set_cons_succ, List.getElem_toArray, List.getElem_cons_zero, List.getElem_cons_succ]
          refine wpAnyH_ready (rs := [5]) (by kernel_rfl) (by simp) ?_
          refine AllReadyH.cons (by rfl) (fun K hK => ?_) AllReadyH.nil
          simp only [List.getElem_toArray, List.getElem_cons_zero, List.getElem_cons_succ]
          refine wp_append_of (.const (.slice none 0 0)) (.tmp 180) rfl rfl rfl H5.out ?_
          (try dsimp only)
          refine hK.out _ _ ⟨c2.out, g2.out⟩ (fun hHeld => ?_)
          clear hK K
          try simp only [Act.put, List.setIfInBounds_toArray, List.set_cons_zero, List.set_cons_succ, List.getElem_toArray, List.getElem_cons_zero, List.getElem_cons_succ]
          refine wpAnyH_take (i := 8) (v := _) (by rfl) (by kernel_rfl) (by kernel_rfl) (by kernel_rfl) (fun _ _ _ h => h) (yieldsIf_build (by rfl) _ _ rfl _ (by simp [Act.eval]) (fun u => B.out u)) hHeld ?_
          try simp only [Act.put, List.setIfInBounds_toArray, List.set_cons_zero, List.set_cons_succ, List.getElem_toArray, List.getElem_cons_zero, List.getElem_cons_succ]
          refine wpAnyH_ready (rs := [9]) (by kernel_rfl) (by simp) ?_
          refine AllReadyH.cons (by rfl) (fun K hK => ?_) AllReadyH.nil
          simp only [List.getElem_toArray, List.getElem_cons_zero, List.getElem_cons_succ]
          refine wp_store_of (.tmp 14) (.tmp 184) rfl rfl rfl T.out ?_
          (try dsimp only)
          refine hK.out _ _ ⟨c3.out, g3.out⟩ (fun hHeld => ?_)
          clear hK K
          try simp only [Act.put, List.setIfInBounds_toArray, List.set_cons_zero, List.set_cons_succ, List.getElem_toArray, List.getElem_cons_zero, List.getElem_cons_succ]
          refine wpAnyH_done (by kernel_rfl) ?_ _
          refine NoPanic.normal ?_
          clear hHeld
          go_wp2_with fail
          refine bodyPost_ret (told_ret Y2.out mem1 rfl rfl) rfl ?_
          exact ⟨A5, n5, c5, rfl, by rw [hrr.out]; exact S3.out, hfr.out, Y2.out.below⟩
      · subst h0 h1
        go_wp2_with fail
        clear c2 c3
        have VY := veil VY.out.drew
        have c1 := veil (show w3.drew.cell? a = some (.int .u8 x0) from E4.out.1)
        have VS := slc_drop (HS.out.keep VY.out.below) h8n
        obtain ⟨v5, w5, h5, G5⟩ := (Grow.begin VY.out).append VS (by simp [HL.out]; omega) 28
        obtain ⟨A5, c5, e5, r5, k5⟩ := G5.own.slc.slice
        subst e5
        have hsl := G5.own.slc
        generalize ([] ++ zs.drop 8).length = n5 at *
        rw [List.nil_append] at hsl
        have hfr : Hid (∀ b, A5 = some b → w.heap.size ≤ b.block) := fun b hb => by
          subst hb
          have h1 := (World.ownsRow.lt G5.own b.block rfl).1
          have h2 := VY.out.size
          exact Nat.le_trans h2 h1
        have hoff : Off A5 w.heap.size := fun b hb e => by
          subst hb
          have h1 := (World.ownsRow.lt G5.own b.block rfl).1
          have h2 := VY.out.lt mem1
          omega
        have c2 := veil (show w5.cell? a = some (.int .u8 x0) by
          have h := HR.out.keep G5.lay.below 0 (by rw [HL.out]; omega)
          have h0 := HR.out.keep VY.out.below 0 (by rw [HL.out]; omega)
          obtain ⟨_, e1, hc1⟩ := h
          obtain ⟨_, e2, hc2⟩ := h0
          injection e1 with e1
          injection e2 with e2
          subst e1 e2
          have hx := c1.out.symm.trans hc2
          rw [hx]
          exact hc1)
        have T := veil (told_store (t := { last := x0, rest := zs.drop 8, alert := al, frag := f }) (v := .slice A5 n5 c5) G5.lay mem1 hz.out rfl)
        have S3 := veil (hsl.setRow hoff (tc { last := x0, rest := zs.drop 8, alert := al, frag := f } (.slice A5 n5 c5)).toArray)
        have c3 := veil (cell_setRow c2.out hne.out (tc { last := x0, rest := zs.drop 8, alert := al, frag := f } (.slice A5 n5 c5)).toArray)
        have Y2 := veil (G5.lay.put 1 rfl (tc { last := x0, rest := zs.drop 8, alert := al, frag := f } (.slice A5 n5 c5)))
        simp only [List.set_cons_zero, List.set_cons_succ] at Y2
        have g1 := veil (VY.out.range mem0 (part_all _))
        have g2 := veil (G5.lay.range mem0 (part_all _))
        have g3 := veil (Y2.out.range mem0 (part_all _))
        have hrr : Hid (({ last := x0, rest := zs.drop 8, alert := al, frag := f } : Tl).rest = zs.drop 8) := rfl
        have B := veil (fun u => made_part x0 A5 n5 c5 al (zs.drop 8) f u)
        have h5' := h5
        generalize ({ last := x0, rest := zs.drop 8, alert := al, frag := f } : Tl) = te at *
        clear VS G5 r5 k5 hsl hoff h5 E4
        rcases (by omega : c = 8 ∨ ¬ c = 8) with ec | ec
        · subst ec
          simp only [cutA, if_pos, Nat.sub_self] at h5'
          have H5 := veil h5'
          clear h5'
          refine wp_region_noPanic ?_
          refine wp_region_held_drew (S := (fun w' => w'.cell? a = some (.int .u8 x0) ∧ w'.rangeAt gf 0 (fgc f))) (by kernel_rfl) ⟨c1.out, g1.out⟩ (fun hHeld => ?_)
          refine wpAnyH_take (i := 0) (v := ?_) (by rfl) (by kernel_rfl) (by kernel_rfl) (by kernel_rfl) (fun _ _ _ h => h) (Or.inl ⟨by rfl, ?_⟩) hHeld ?_
          rotate_left
          · intro w' hSw
            (try dsimp only at hSw)
            simp only [List.getElem_toArray, List.getElem_cons_zero, List.getElem_cons_succ]
            go_simp
            all_goals (try with_reducible rfl)
          try simp only [Act.put, List.setIfInBounds_toArray, List.set_cons_zero, List.set_cons_succ, List.getElem_toArray, List.getElem_cons_zero, List.getElem_cons_succ]
          refine wpAnyH_take (i := 1) (v := ?_) (by rfl) (by kernel_rfl) (by kernel_rfl) (by kernel_rfl) (fun _ _ _ h => h) (Or.inl ⟨by rfl, ?_⟩) hHeld ?_
          rotate_left
          · intro w' hSw
            (try dsimp only at hSw)
            simp only [List.getElem_toArray, List.getElem_cons_zero, List.getElem_cons_succ]
            go_simp
            all_goals (try with_reducible rfl)
          try simp only [Act.put, List.setIfInBounds_toArray, List.set_cons_zero, List.set_cons_succ, List.getElem_toArray, List.getElem_cons_zero, List.getElem_cons_succ]
          refine wpAnyH_take (i := 2) (v := ?_) (by rfl) (by kernel_rfl) (by kernel_rfl) (by kernel_rfl) (fun _ _ _ h => h) (Or.inl ⟨by rfl, ?_⟩) hHeld ?_
          rotate_left
          · intro w' hSw
            (try dsimp only at hSw)
            simp only [List.getElem_toArray, List.getElem_cons_zero, List.getElem_cons_succ]
            go_simp
            all_goals (try with_reducible rfl)
          try simp only [Act.put, List.setIfInBounds_toArray, List.set_cons_zero, List.set_cons_succ, List.getElem_toArray, List.getElem_cons_zero, List.getElem_cons_succ]
          refine wpAnyH_take (i := 3) (v := ?_) (by rfl) (by kernel_rfl) (by kernel_rfl) (by kernel_rfl) (fun _ _ _ h => h) (Or.inl ⟨by rfl, ?_⟩) hHeld ?_
          rotate_left
          · intro w' hSw
            (try dsimp only at hSw)
            simp only [List.getElem_toArray, List.getElem_cons_zero, List.getElem_cons_succ]
            go_simp
            all_goals (try with_reducible rfl)
          try simp only [Act.put, List.setIfInBounds_toArray, List.set_cons_zero, List.set_cons_succ, List.getElem_toArray, List.getElem_cons_zero, List.getElem_cons_succ]
          refine wpAnyH_take (i := 4) (v := ?_) (by rfl) (by kernel_rfl) (by kernel_rfl) (by kernel_rfl) (fun _ _ _ h => h) (Or.inl ⟨by rfl, ?_⟩) hHeld ?_
          rotate_left
          · intro w' hSw
            (try dsimp only at hSw)
            simp only [List.getElem_toArray, List.getElem_cons_zero, List.getElem_cons_succ]
            go_simp
            all_goals (try with_reducible rfl)
          try simp only [Act.put, List.setIfInBounds_toArray, List.set_cons_zero, List.set_cons_succ, List.getElem_toArray, List.getElem_cons_zero, List.getElem_cons_succ]
          refine wpAnyH_take (i := 6) (v := ?_) (by rfl) (by kernel_rfl) (by kernel_rfl) (by kernel_rfl) (fun _ _ _ h => h) (Or.inl ⟨by rfl, ?_⟩) hHeld ?_
          rotate_left
          · intro w' hSw
            (try dsimp only at hSw)
            simp only [List.getElem_toArray, List.getElem_cons_zero, List.getElem_cons_succ]
            go_simp
            all_goals (try with_reducible rfl)
          try simp only [Act.put, List.setIfInBounds_toArray, List.set_cons_zero, List.set_cons_succ, List.getElem_toArray, List.getElem_cons_zero, List.getElem_cons_succ]
          refine wpAnyH_take (i := 7) (v := _) (by rfl) (by kernel_rfl) (by kernel_rfl) (by kernel_rfl) (fun _ _ _ h => h) (yieldsIf_load_mid (by rfl) _ _ (by rfl) _ _ rfl (fgc f) _ (fun _ h => h.2) Try.underlying27 rfl sizeFrag) hHeld ?_
          try simp only [Act.put, List.setIfInBounds_toArray, List.set_cons_zero, List.set_cons_succ, List.getElem_toArray, List.getElem_cons_zero, List.getElem_cons_succ]
          refine wpAnyH_ready (rs := [5]) (by kernel_rfl) (by simp) ?_
          refine AllReadyH.cons (by rfl) (fun K hK => ?_) AllReadyH.nil
          simp only [List.getElem_toArray, List.getElem_cons_zero, List.getElem_cons_succ]
          refine wp_append_of (.const (.slice none 0 0)) (.tmp 180) rfl rfl rfl H5.out ?_
          (try dsimp only)
          refine hK.out _ _ ⟨c2.out, g2.out⟩ (fun hHeld => ?_)
          clear hK K
          try simp only [Act.put, List.setIfInBounds_toArray, List.set_cons_zero, List.set_cons_succ, List.getElem_toArray, List.getElem_cons_zero, List.getElem_cons_succ]
          refine wpAnyH_take (i := 8) (v := _) (by rfl) (by kernel_rfl) (by kernel_rfl) (by kernel_rfl) (fun _ _ _ h => h) (yieldsIf_build (by rfl) _ _ rfl _ (by simp [Act.eval]) (fun u => B.out u)) hHeld ?_
          try simp only [Act.put, List.setIfInBounds_toArray, List.set_cons_zero, List.set_cons_succ, List.getElem_toArray, List.getElem_cons_zero, List.getElem_cons_succ]
          refine wpAnyH_ready (rs := [9]) (by kernel_rfl) (by simp) ?_
          refine AllReadyH.cons (by rfl) (fun K hK => ?_) AllReadyH.nil
          simp only [List.getElem_toArray, List.getElem_cons_zero, List.getElem_cons_succ]
          refine wp_store_of (.tmp 14) (.tmp 184) rfl rfl rfl T.out ?_
          (try dsimp only)
          refine hK.out _ _ ⟨c3.out, g3.out⟩ (fun hHeld => ?_)
          clear hK K
          try simp only [Act.put, List.setIfInBounds_toArray, List.set_cons_zero, List.set_cons_succ, List.getElem_toArray, List.getElem_cons_zero, List.getElem_cons_succ]
          refine wpAnyH_done (by kernel_rfl) ?_ _
          refine NoPanic.normal ?_
          clear hHeld
          go_wp2_with fail
          refine bodyPost_ret (told_ret Y2.out mem1 rfl rfl) rfl ?_
          exact ⟨A5, n5, c5, rfl, by rw [hrr.out]; exact S3.out, hfr.out, Y2.out.below⟩
        · simp only [cutA, if_neg ec] at h5'
          have H5 := veil h5'
          clear h5'
          refine wp_region_noPanic ?_
          refine wp_region_held_drew (S := (fun w' => w'.cell? a = some (.int .u8 x0) ∧ w'.rangeAt gf 0 (fgc f))) (by kernel_rfl) ⟨c1.out, g1.out⟩ (fun hHeld => ?_)
          refine wpAnyH_take (i := 0) (v := ?_) (by rfl) (by kernel_rfl) (by kernel_rfl) (by kernel_rfl) (fun _ _ _ h => h) (Or.inl ⟨by rfl, ?_⟩) hHeld ?_
          rotate_left
          · intro w' hSw
            (try dsimp only at hSw)
            simp only [List.getElem_toArray, List.getElem_cons_zero, List.getElem_cons_succ]
            go_simp
            all_goals (try with_reducible rfl)
          try simp only [Act.put, List.setIfInBounds_toArray, List.set_cons_zero, List.set_cons_succ, List.getElem_toArray, List.getElem_cons_zero, List.getElem_cons_succ]
          refine wpAnyH_take (i := 1) (v := ?_) (by rfl) (by kernel_rfl) (by kernel_rfl) (by kernel_rfl) (fun _ _ _ h => h) (Or.inl ⟨by rfl, ?_⟩) hHeld ?_
          rotate_left
          · intro w' hSw
            (try dsimp only at hSw)
            simp only [List.getElem_toArray, List.getElem_cons_zero, List.getElem_cons_succ]
            go_simp
            all_goals (try with_reducible rfl)
          try simp only [Act.put, List.setIfInBounds_toArray, List.set_cons_zero, List.set_cons_succ, List.getElem_toArray, List.getElem_cons_zero, List.getElem_cons_succ]
          refine wpAnyH_take (i := 2) (v := ?_) (by rfl) (by kernel_rfl) (by kernel_rfl) (by kernel_rfl) (fun _ _ _ h => h) (Or.inl ⟨by rfl, ?_⟩) hHeld ?_
          rotate_left
          · intro w' hSw
            (try dsimp only at hSw)
            simp only [List.getElem_toArray, List.getElem_cons_zero, List.getElem_cons_succ]
            go_simp
            all_goals (try with_reducible rfl)
          try simp only [Act.put, List.setIfInBounds_toArray, List.set_cons_zero, List.set_cons_succ, List.getElem_toArray, List.getElem_cons_zero, List.getElem_cons_succ]
          refine wpAnyH_take (i := 3) (v := ?_) (by rfl) (by kernel_rfl) (by kernel_rfl) (by kernel_rfl) (fun _ _ _ h => h) (Or.inl ⟨by rfl, ?_⟩) hHeld ?_
          rotate_left
          · intro w' hSw
            (try dsimp only at hSw)
            simp only [List.getElem_toArray, List.getElem_cons_zero, List.getElem_cons_succ]
            go_simp
            all_goals (try with_reducible rfl)
          try simp only [Act.put, List.setIfInBounds_toArray, List.set_cons_zero, List.set_cons_succ, List.getElem_toArray, List.getElem_cons_zero, List.getElem_cons_succ]
          refine wpAnyH_take (i := 4) (v := ?_) (by rfl) (by kernel_rfl) (by kernel_rfl) (by kernel_rfl) (fun _ _ _ h => h) (Or.inl ⟨by rfl, ?_⟩) hHeld ?_
          rotate_left
          · intro w' hSw
            (try dsimp only at hSw)
            simp only [List.getElem_toArray, List.getElem_cons_zero, List.getElem_cons_succ]
            go_simp
            all_goals (try with_reducible rfl)
          try simp only [Act.put, List.setIfInBounds_toArray, List.set_cons_zero, List.set_cons_succ, List.getElem_toArray, List.getElem_cons_zero, List.getElem_cons_succ]
          refine wpAnyH_take (i := 6) (v := ?_) (by rfl) (by kernel_rfl) (by kernel_rfl) (by kernel_rfl) (fun _ _ _ h => h) (Or.inl ⟨by rfl, ?_⟩) hHeld ?_
          rotate_left
          · intro w' hSw
            (try dsimp only at hSw)
            simp only [List.getElem_toArray, List.getElem_cons_zero, List.getElem_cons_succ]
            go_simp
            all_goals (try with_reducible rfl)
          try simp only [Act.put, List.setIfInBounds_toArray, List.set_cons_zero, List.set_cons_succ, List.getElem_toArray, List.getElem_cons_zero, List.getElem_cons_succ]
          refine wpAnyH_take (i := 7) (v := _) (by rfl) (by kernel_rfl) (by kernel_rfl) (by kernel_rfl) (fun _ _ _ h => h) (yieldsIf_load_mid (by rfl) _ _ (by rfl) _ _ rfl (fgc f) _ (fun _ h => h.2) Try.underlying27 rfl sizeFrag) hHeld ?_
          try simp only [Act.put, List.setIfInBounds_toArray, List.set_cons_zero, List.set_cons_succ, List.getElem_toArray, List.getElem_cons_zero, List.getElem_cons_succ]
          refine wpAnyH_ready (rs := [5]) (by kernel_rfl) (by simp) ?_
          refine AllReadyH.cons (by rfl) (fun K hK => ?_) AllReadyH.nil
          simp only [List.getElem_toArray, List.getElem_cons_zero, List.getElem_cons_succ]
          refine wp_append_of (.const (.slice none 0 0)) (.tmp 180) rfl rfl rfl H5.out ?_
          (try dsimp only)
          refine hK.out _ _ ⟨c2.out, g2.out⟩ (fun hHeld => ?_)
          clear hK K
          try simp only [Act.put, List.setIfInBounds_toArray, List.set_cons_zero, List.set_cons_succ, List.getElem_toArray, List.getElem_cons_zero, List.getElem_cons_succ]
          refine wpAnyH_take (i := 8) (v := _) (by rfl) (by kernel_rfl) (by kernel_rfl) (by kernel_rfl) (fun _ _ _ h => h) (yieldsIf_build (by rfl) _ _ rfl _ (by simp [Act.eval]) (fun u => B.out u)) hHeld ?_
          try simp only [Act.put, List.setIfInBounds_toArray, List.set_cons_zero, List.set_cons_succ, List.getElem_toArray, List.getElem_cons_zero, List.getElem_cons_succ]
          refine wpAnyH_ready (rs := [9]) (by kernel_rfl) (by simp) ?_
          refine AllReadyH.cons (by rfl) (fun K hK => ?_) AllReadyH.nil
          simp only [List.getElem_toArray, List.getElem_cons_zero, List.getElem_cons_succ]
          refine wp_store_of (.tmp 14) (.tmp 184) rfl rfl rfl T.out ?_
          (try dsimp only)
          refine hK.out _ _ ⟨c3.out, g3.out⟩ (fun hHeld => ?_)
          clear hK K
          try simp only [Act.put, List.setIfInBounds_toArray, List.set_cons_zero, List.set_cons_succ, List.getElem_toArray, List.getElem_cons_zero, List.getElem_cons_succ]
          refine wpAnyH_done (by kernel_rfl) ?_ _
          refine NoPanic.normal ?_
          clear hHeld
          go_wp2_with fail
          refine bodyPost_ret (told_ret Y2.out mem1 rfl rfl) rfl ?_
          exact ⟨A5, n5, c5, rfl, by rw [hrr.out]; exact S3.out, hfr.out, Y2.out.below⟩

end Go.Proofs.Ytfkjfdmepeahnaa.Hd
