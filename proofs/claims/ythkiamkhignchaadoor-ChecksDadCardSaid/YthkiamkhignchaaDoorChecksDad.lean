/-
  ChecksDad: who asks whether somebody has an address, without having one, asks at its solicited address, and tells no address of the link; whoever has one may ask anywhere: the law returns true for every input, and its arguments read as before.
  Conditions: none.
-/
import Derived.Test.YthkiamkhignchaaDoorChkL
import Derived.Test.YthkiamkhignchaaDoorTie
import Derived.Test.YthkiamkhignchaaDoorCards
import Derived.SevenTiedAt
namespace Go.Proofs.YthkiamkhignchaaDoor.checksDad
set_option maxRecDepth 100000
open Go.ChangeShapes Go.WideShapes Go.ChangeAt Go.RowKit Ops Oz Mg Ck
open Hd hiding nilV
open Ad (Knw kn kn_len kn_ok Ok mult ll sol sol_ok isMulticast_any isLinkLocal_any solicited_any unspecified_any eql_any neq_any open_addr laid1 knw_of_laid door_met)

def k0 (d : List Int) : Pk := { s := z16, d := d, hops := 255 }
def k2 (s d : List Int) : Pk := { s := s, d := d, hops := 255 }
def m0 (t : List Int) : Ms := { kind := 135, t := t }
def m1 (t : List Int) (v : Value) : Ms := { kind := 135, t := t, opts := v }
theorem k0_ends {d : List Int} (h : d.length = 16) : Hd.Ends (k0 d) := ⟨rfl, h⟩
theorem k2_ends {s d : List Int} (hs : s.length = 16) (h : d.length = 16) : Hd.Ends (k2 s d) := ⟨hs, h⟩
theorem m0_fine {t : List Int} (h : t.length = 16) : Fine3 (m0 t) := ⟨h, rfl, rfl, rfl, rfl, rfl, rfl⟩
theorem m1_fine {t : List Int} (h : t.length = 16) (g : Nat) : Fine3 (m1 t (.slice (some ⟨g, 0, none⟩) 2 2)) := ⟨h, rfl, rfl, rfl, rfl, rfl, rfl⟩
theorem nob_z : nob z16 = true := by decide +kernel
abbrev two : List (Int × List Int) := [14, 1].map fun x => (x, [])
theorem valid0 (d t : List Int) : valid (k0 d) (m0 t) [] = (!mult t && decide (d = sol t)) := by
  rw [valid_of (asked_135 rfl)]
  have e : nob (k0 d).s = true := nob_z
  unfold asks hides
  rw [e]
  simp [k0, m0, one]
  rfl
theorem valid1 (d t : List Int) (v : Value) : valid (k0 d) (m1 t v) two = false := by
  rw [valid_of (asked_135 rfl)]
  have e : nob (k0 d).s = true := nob_z
  unfold asks hides
  rw [e, show one two = true by decide]
  simp
theorem valid2 (s d t : List Int) (v : Value) (h : nob s = false) : valid (k2 s d) (m1 t v) two = !mult t := by
  rw [valid_of (asked_135 rfl)]
  have e : nob (k2 s d).s = false := h
  unfold asks hides
  rw [e]
  simp [k2, m1]
theorem valid3 (s d t : List Int) (v : Value) (h : nob s = true) : valid (k2 s d) (m1 t v) two = false := by
  rw [valid_of (asked_135 rfl)]
  have e : nob (k2 s d).s = true := h
  unfold asks hides
  rw [e, show one two = true by decide]
  simp
section
variable {s d t : List Int} {w : World}
theorem call0 (b : Bool) (hd : Ok d) (ht : Ok t) (hk : Knw w) (e : (!mult t && decide (d = sol t)) = b) : Calls Tryd.prog 11 #[pv (k0 d) nilV, mv (m0 t)] w fun e w' => e = .returned (.bool b) ∧ Below w.heap.size w w' := by
  have k := codeValid (k0 d) nilV (m0 t) [] w hk (gd_of z16_ok hd ht z16_ok (m0_fine ht.len) (by show (0 : Int) ≤ 0 ∧ (0 : Int) ≤ 255; decide) (by show (0 : Int) ≤ 135 ∧ (135 : Int) ≤ 255; decide)) (op1_nil w)
  rwa [valid0, e] at k
theorem call1 (g : Nat) (hd : Ok d) (ht : Ok t) (hk : Knw w) (ho : Op1 w (.slice (some ⟨g, 0, none⟩) 2 2) two) : Calls Tryd.prog 11 #[pv (k0 d) nilV, mv (m1 t (.slice (some ⟨g, 0, none⟩) 2 2))] w fun e w' => e = .returned (.bool false) ∧ Below w.heap.size w w' := by
  have k := codeValid (k0 d) nilV (m1 t (.slice (some ⟨g, 0, none⟩) 2 2)) two w hk (gd_of z16_ok hd ht z16_ok (m1_fine ht.len g) (by show (0 : Int) ≤ 0 ∧ (0 : Int) ≤ 255; decide) (by show (0 : Int) ≤ 135 ∧ (135 : Int) ≤ 255; decide)) ho
  rwa [valid1] at k
theorem call2 (b : Bool) (g : Nat) (hs : Ok s) (hd : Ok d) (ht : Ok t) (hk : Knw w) (ho : Op1 w (.slice (some ⟨g, 0, none⟩) 2 2) two) (e : (!mult t && !nob s) = b) : Calls Tryd.prog 11 #[pv (k2 s d) nilV, mv (m1 t (.slice (some ⟨g, 0, none⟩) 2 2))] w fun e w' => e = .returned (.bool b) ∧ Below w.heap.size w w' := by
  have k := codeValid (k2 s d) nilV (m1 t (.slice (some ⟨g, 0, none⟩) 2 2)) two w hk (gd_of hs hd ht z16_ok (m1_fine ht.len g) (by show (0 : Int) ≤ 0 ∧ (0 : Int) ≤ 255; decide) (by show (0 : Int) ≤ 135 ∧ (135 : Int) ≤ 255; decide)) ho
  cases h : nob s with
  | false =>
    rw [valid2 _ _ _ _ h] at k
    have e2 : (!mult t) = b := by rw [← e, h]; simp
    rwa [e2] at k
  | true =>
    rw [valid3 _ _ _ _ h] at k
    have e2 : false = b := by rw [← e, h]; simp
    rwa [← e2]
end

set_option linter.unusedSimpArgs false in
set_option maxHeartbeats 8000000 in
theorem walkM (t d s : List Int) (w : World) (ht : Ok t) (hd : Ok d) (hs : Ok s) (hk : Knw w) (hm : mult t = true) :
    Calls Tryd.prog 6 #[av t, av d, av s] w fun e w' => e = .returned (.bool true) ∧ Below w.heap.size w w' := by
  obtain ⟨ZP, hZP⟩ : ∃ Z : Array Value, Z = #[.int .u8 0, .int .u8 0, .int .u8 0, .int .u8 0, .int .u8 0, .int .u8 0, .int .u8 0, .int .u8 0, .int .u8 0, .int .u8 0, .int .u8 0, .int .u8 0, .int .u8 0, .int .u8 0, .int .u8 0, .int .u8 0, .int .u8 0, .int .u8 0, .int .u8 0, .int .u8 0, .int .u8 0, .int .u8 0, .int .u8 0, .int .u8 0, .int .u8 0, .int .u8 0, .int .u8 0, .int .u8 0, .int .u8 0, .int .u8 0, .int .u8 0, .int .u8 0, .int .u8 0, .bool false, .bool false, .int .u32 0, .int .u16 0, .bool false, .int .u8 0, .slice none 0 0] := ⟨_, rfl⟩
  obtain ⟨ZM, hZM⟩ : ∃ Z : Array Value, Z = #[.int .u8 0, .int .u8 0, .int .u32 0, .slice none 0 0, .int .u8 0, .int .u8 0, .int .u16 0, .int .u32 0, .int .u32 0, .int .u8 0, .int .u8 0, .int .u8 0, .int .u8 0, .int .u8 0, .int .u8 0, .int .u8 0, .int .u8 0, .int .u8 0, .int .u8 0, .int .u8 0, .int .u8 0, .int .u8 0, .int .u8 0, .int .u8 0, .int .u8 0, .int .u8 0, .int .u8 0, .int .u8 0, .int .u8 0, .int .u8 0, .int .u8 0, .int .u8 0, .int .u8 0, .int .u8 0, .int .u8 0, .int .u8 0, .int .u8 0, .int .u8 0, .int .u8 0, .int .u8 0, .int .u8 0, .slice none 0 0, .int .u16 0, .int .u8 0, .int .u8 0, .int .u8 0, .int .u8 0, .int .u8 0, .int .u8 0, .int .u8 0, .int .u8 0, .int .u8 0, .int .u8 0, .int .u8 0, .int .u8 0, .int .u8 0, .int .u8 0, .int .u8 0, .int .u8 0, .int .u8 0, .int .u8 0, .slice none 0 0, .slice none 0 0] := ⟨_, rfl⟩
  have sP : ZP.size = 40 := by rw [hZP]; rfl
  have sM : ZM.size = 63 := by rw [hZM]; rfl
  have M0 := (((Kw.begin hk).new (bv t) 23 (g := w.heap.size) rfl).new (bv d) 23 (g := w.heap.size + 1) (by simp)).new (bv s) 23 (g := w.heap.size + 1 + 1) (by simp)
  obtain ⟨wb, hwb⟩ : ∃ x, ((w.alloc (.cells (bv t).toArray 23)).alloc (.cells (bv d).toArray 23)).alloc (.cells (bv s).toArray 23) = x := ⟨_, rfl⟩
  rw [hwb] at M0
  have L1 := M0.lay.load (P := Tryd.prog) mem1 (part_all _) Tryd.underlying23 rfl (sizeAddr hd.len)
  obtain ⟨w1, S1, M1⟩ := M0.fresh (P := Tryd.prog) ZP 30 (pc (k0 d) nilV) (by rw [sP, pc_len (k0_ends hd.len)]) (sizePkt (k0_ends hd.len)) (pc_one rfl)
  have szb : wb.heap.size = w.heap.size + 1 + 1 + 1 := by rw [← hwb]; simp
  rw [szb] at S1 M1
  clear szb
  have L2 := M1.lay.load (P := Tryd.prog) mem3 (part_all _) Tryd.underlying23 rfl (sizeAddr ht.len)
  obtain ⟨w2, S2, M2⟩ := M1.fresh (P := Tryd.prog) ZM 35 (mc (m0 t)) (by rw [sM, mc_len (m0_fine ht.len)]) (sizeMsg (m0_fine ht.len)) (mc_one (m0_fine ht.len))
  have L3 := M2.lay.load (P := Tryd.prog) mem4 (part_all _) Tryd.underlying23 rfl (sizeAddr ht.len)
  have VS1 := veil S1
  have VS2 := veil S2
  have VL1 := veil L1
  have VL2 := veil L2
  have VL3 := veil L3
  have M := veil M2
  have HT := veil ht
  have HD := veil hd
  have HS := veil hs
  have HMU := veil hm
  have SO := veil (sol_ok ht)
  have C0 : ∀ u, Knw u → Calls Tryd.prog 11 #[pv (k0 d) nilV, mv (m0 t)] u fun e w' => e = .returned (.bool false) ∧ Below u.heap.size u w' := fun u hu => call0 _ hd ht hu (by rw [hm]; rfl)
  have C1 : ∀ u, Knw u → Calls Tryd.prog 11 #[pv (k0 (sol t)) nilV, mv (m0 t)] u fun e w' => e = .returned (.bool false) ∧ Below u.heap.size u w' := fun u hu => call0 _ (sol_ok ht) ht hu (by rw [hm]; simp)
  have C3 : ∀ u g, Knw u → Op1 u (.slice (some ⟨g, 0, none⟩) 2 2) two → Calls Tryd.prog 11 #[pv (k2 s d) nilV, mv (m1 t (.slice (some ⟨g, 0, none⟩) 2 2))] u fun e w' => e = .returned (.bool false) ∧ Below u.heap.size u w' := fun u g hu ho => call2 _ g hs hd ht hu ho (by rw [hm]; rfl)
  have VC0 := veil C0
  have VC1 := veil C1
  have VC3 := veil C3
  clear M0 M1 M2 S1 S2 L1 L2 L3 sP sM ht hd hs hk hm C0 C1 C3
  subst hwb hZP hZM
  go_enter Tryd.func6, Tryd.ntmps6
  go_wp2_with (first
    | (refine wpList_load_of rfl (.tmp 4) rfl rfl VL1.out ?_; (try simp only [Act.put, List.setIfInBounds_toArray, List.set_cons_zero, List.set_cons_succ]))
    | (refine wpList_build_of rfl 30 #[(1, .tmp 10), (2, .const (.int .u8 255))] rfl #[(1, av d), (2, .int .u8 255)] (by simp [Act.eval]) (made_dst HD.out.len 255 _) ?_; (try simp only [Act.put, List.setIfInBounds_toArray, List.set_cons_zero, List.set_cons_succ]))
    | (refine wpList_store_of rfl (.tmp 7) (.tmp 11) rfl rfl rfl VS1.out ?_; (try simp only [Act.put, List.setIfInBounds_toArray, List.set_cons_zero, List.set_cons_succ]))
    | (refine wpList_load_of rfl (.tmp 3) rfl rfl VL2.out ?_; (try simp only [Act.put, List.setIfInBounds_toArray, List.set_cons_zero, List.set_cons_succ]))
    | (refine wpList_build_of rfl 35 #[(0, .const (.int .u8 135)), (9, .tmp 12)] rfl #[(0, .int .u8 135), (9, av t)] (by simp [Act.eval]) (made_target HT.out.len 135 _) ?_; (try simp only [Act.put, List.setIfInBounds_toArray, List.set_cons_zero, List.set_cons_succ]))
    | (refine wpList_store_of rfl (.tmp 8) (.tmp 13) rfl rfl rfl VS2.out ?_; (try simp only [Act.put, List.setIfInBounds_toArray, List.set_cons_zero, List.set_cons_succ]))
    | (refine wpList_load_of rfl (.tmp 3) rfl rfl VL3.out ?_; (try simp only [Act.put, List.setIfInBounds_toArray, List.set_cons_zero, List.set_cons_succ])))
  refine (isMulticast_any t _ HT.out).mono ?_
  rintro e w3 ⟨rfl, q⟩
  have M := veil (M.out.keep q)
  clear q VS1 VS2 VL1 VL2 VL3
  rw [HMU.out]
  generalize ((w.alloc (.cells (bv t).toArray 23)).alloc (.cells (bv d).toArray 23)).alloc (.cells (bv s).toArray 23) = wb at *
  generalize w.heap.size + 1 + 1 + 1 = gp at *
  generalize w1.heap.size = gm at *
  go_wp2_with fail
  have M := veil M.out.drew
  have ip := veil (sizePkt (v := nilV) (k0_ends HD.out.len))
  have im := veil (sizeMsg (m0_fine HT.out.len))
  have id := veil (sizeAddr HD.out.len)
  have it := veil (sizeAddr HT.out.len)
  refine wp_region_noPanic ?_
  refine wp_region_held_drew (S := (fun w' => ∀ x ∈ [(gm, (35, mc (m0 t))), (gp, (30, pc (k0 d) nilV)), (w.heap.size + 1 + 1, (23, bv s)), (w.heap.size + 1, (23, bv d)), (w.heap.size, (23, bv t))], w'.rangeAt x.1 0 x.2.2)) (by kernel_rfl) M.out.rng (fun hHeld => ?_)
  refine wpAnyH_take (i := 0) (v := _) (by rfl) (by kernel_rfl) (by kernel_rfl) (by kernel_rfl) (fun _ _ _ h => h) (yieldsIf_load_mid (by rfl) _ _ (by rfl) _ _ rfl (pc (k0 d) nilV) _ (fun _ h => h _ (List.mem_cons_of_mem _ List.mem_cons_self)) Tryd.underlying30 rfl ip.out) hHeld ?_
  try simp only [Act.put, List.setIfInBounds_toArray, List.set_cons_zero, List.set_cons_succ, List.getElem_toArray, List.getElem_cons_zero, List.getElem_cons_succ]
  refine wpAnyH_take (i := 1) (v := _) (by rfl) (by kernel_rfl) (by kernel_rfl) (by kernel_rfl) (fun _ _ _ h => h) (yieldsIf_load_mid (by rfl) _ _ (by rfl) _ _ rfl (mc (m0 t)) _ (fun _ h => h _ List.mem_cons_self) Tryd.underlying35 rfl im.out) hHeld ?_
  try simp only [Act.put, List.setIfInBounds_toArray, List.set_cons_zero, List.set_cons_succ, List.getElem_toArray, List.getElem_cons_zero, List.getElem_cons_succ]
  refine wpAnyH_take (i := 3) (v := ?_) (by rfl) (by kernel_rfl) (by kernel_rfl) (by kernel_rfl) (fun _ _ _ h => h) (Or.inl ⟨by rfl, ?_⟩) hHeld ?_
  rotate_left
  · intro w' hSw
    (try dsimp only at hSw)
    simp only [List.getElem_toArray, List.getElem_cons_zero, List.getElem_cons_succ]
    go_simp
    all_goals (try with_reducible rfl)
  try simp only [Act.put, List.setIfInBounds_toArray, List.set_cons_zero, List.set_cons_succ, List.getElem_toArray, List.getElem_cons_zero, List.getElem_cons_succ]
  refine wpAnyH_take (i := 4) (v := ?_) (by rfl) (by kernel_rfl) (by kernel_rfl) (by kernel_rfl) (fun _ _ _ h => h) (Or.inl ⟨by rfl, ?_⟩) hHeld ?_
  rotate_left
  · intro w' hSw
    (try dsimp only at hSw)
    simp only [List.getElem_toArray, List.getElem_cons_zero, List.getElem_cons_succ]
    go_simp
    all_goals (try with_reducible rfl)
  try simp only [Act.put, List.setIfInBounds_toArray, List.set_cons_zero, List.set_cons_succ, List.getElem_toArray, List.getElem_cons_zero, List.getElem_cons_succ]
  refine wpAnyH_ready (rs := [2]) (by kernel_rfl) (by simp) ?_
  refine AllReadyH.cons (by rfl) (fun K hK => ?_) AllReadyH.nil
  simp only [List.getElem_toArray, List.getElem_cons_zero, List.getElem_cons_succ]
  go_simp
  refine (VC0.out _ M.out.knw).mono ?_
  rintro e w4 ⟨rfl, q⟩
  have M := veil (M.out.keep q)
  clear q
  (try dsimp only)
  refine hK.out _ _ M.out.rng (fun hHeld => ?_)
  clear hK K
  try simp only [Act.put, List.setIfInBounds_toArray, List.set_cons_zero, List.set_cons_succ, List.getElem_toArray, List.getElem_cons_zero, List.getElem_cons_succ]
  refine wpAnyH_take (i := 5) (v := ?_) (by rfl) (by kernel_rfl) (by kernel_rfl) (by kernel_rfl) (fun _ _ _ h => h) (Or.inl ⟨by rfl, ?_⟩) hHeld ?_
  rotate_left
  · intro w' hSw
    (try dsimp only at hSw)
    simp only [List.getElem_toArray, List.getElem_cons_zero, List.getElem_cons_succ]
    go_simp
    all_goals (try with_reducible rfl)
  try simp only [Act.put, List.setIfInBounds_toArray, List.set_cons_zero, List.set_cons_succ, List.getElem_toArray, List.getElem_cons_zero, List.getElem_cons_succ]
  refine wpAnyH_take (i := 6) (v := undef) (by rfl) (by kernel_rfl) (by kernel_rfl) (by kernel_rfl) (fun _ _ _ h => h) (Or.inr ⟨by rfl, rfl⟩) hHeld ?_
  try simp only [Act.put, List.setIfInBounds_toArray, List.set_cons_zero, List.set_cons_succ, List.getElem_toArray, List.getElem_cons_zero, List.getElem_cons_succ]
  refine wpAnyH_take (i := 7) (v := undef) (by rfl) (by kernel_rfl) (by kernel_rfl) (by kernel_rfl) (fun _ _ _ h => h) (Or.inr ⟨by rfl, rfl⟩) hHeld ?_
  try simp only [Act.put, List.setIfInBounds_toArray, List.set_cons_zero, List.set_cons_succ, List.getElem_toArray, List.getElem_cons_zero, List.getElem_cons_succ]
  refine wpAnyH_take (i := 8) (v := undef) (by rfl) (by kernel_rfl) (by kernel_rfl) (by kernel_rfl) (fun _ _ _ h => h) (Or.inr ⟨by rfl, rfl⟩) hHeld ?_
  try simp only [Act.put, List.setIfInBounds_toArray, List.set_cons_zero, List.set_cons_succ, List.getElem_toArray, List.getElem_cons_zero, List.getElem_cons_succ]
  refine wpAnyH_take (i := 9) (v := undef) (by rfl) (by kernel_rfl) (by kernel_rfl) (by kernel_rfl) (fun _ _ _ h => h) (Or.inr ⟨by rfl, rfl⟩) hHeld ?_
  try simp only [Act.put, List.setIfInBounds_toArray, List.set_cons_zero, List.set_cons_succ, List.getElem_toArray, List.getElem_cons_zero, List.getElem_cons_succ]
  refine wpAnyH_take (i := 10) (v := ?_) (by rfl) (by kernel_rfl) (by kernel_rfl) (by kernel_rfl) (fun _ _ _ h => h) (Or.inl ⟨by rfl, ?_⟩) hHeld ?_
  rotate_left
  · intro w' hSw
    (try dsimp only at hSw)
    simp only [List.getElem_toArray, List.getElem_cons_zero, List.getElem_cons_succ]
    go_simp
    all_goals (try with_reducible rfl)
  try simp only [Act.put, List.setIfInBounds_toArray, List.set_cons_zero, List.set_cons_succ, List.getElem_toArray, List.getElem_cons_zero, List.getElem_cons_succ]
  refine wpAnyH_take (i := 11) (v := ?_) (by rfl) (by kernel_rfl) (by kernel_rfl) (by kernel_rfl) (fun _ _ _ h => h) (Or.inl ⟨by rfl, ?_⟩) hHeld ?_
  rotate_left
  · intro w' hSw
    (try dsimp only at hSw)
    simp only [List.getElem_toArray, List.getElem_cons_zero, List.getElem_cons_succ]
    go_simp
    all_goals (try with_reducible rfl)
  try simp only [Act.put, List.setIfInBounds_toArray, List.set_cons_zero, List.set_cons_succ, List.getElem_toArray, List.getElem_cons_zero, List.getElem_cons_succ]
  refine wpAnyH_done (by kernel_rfl) ?_ _
  refine NoPanic.normal ?_
  clear hHeld
  clear ip im id
  go_wp2_with (refine wpList_load_of rfl (.tmp 3) rfl rfl (M.out.lay.load (List.mem_cons_of_mem _ (List.mem_cons_of_mem _ (List.mem_cons_of_mem _ (List.mem_cons_of_mem _ List.mem_cons_self)))) (part_all _) Tryd.underlying23 rfl it.out) ?_; (try simp only [Act.put, List.setIfInBounds_toArray, List.set_cons_zero, List.set_cons_succ]))
  refine (solicited_any t _ HT.out).mono ?_
  rintro e w6 ⟨rfl, q⟩
  obtain ⟨w7, S7, M7⟩ := (M.out.keep q).part (P := Tryd.prog) 1 rfl 16 (bv (sol t)) 23 (cs' := pc (k0 (sol t)) nilV) (by rw [pc_len (k0_ends HD.out.len), bv_length, SO.out.len]; omega) (sizeAddr SO.out.len) (fun _ h => bv_byte h) (pc_putd (k0_ends HD.out.len) SO.out.len)
  simp only [List.set_cons_zero, List.set_cons_succ] at M7
  have VS7 := veil S7
  have M := veil M7
  clear q S7 M7
  go_wp2_with (first
    | (refine wpList_store_of rfl (.tmp 30) (.tmp 29) rfl rfl rfl VS7.out ?_; (try simp only [Act.put, List.setIfInBounds_toArray, List.set_cons_zero, List.set_cons_succ]))
    | (refine wpList_load_of rfl (.tmp 7) rfl rfl (pktAt M.out.lay mem1 (k0_ends SO.out.len)).all ?_; (try simp only [Act.put, List.setIfInBounds_toArray, List.set_cons_zero, List.set_cons_succ]))
    | (refine wpList_load_of rfl (.tmp 8) rfl rfl (msgAt M.out.lay mem0 (m0_fine HT.out.len)).all ?_; (try simp only [Act.put, List.setIfInBounds_toArray, List.set_cons_zero, List.set_cons_succ])))
  refine (VC1.out _ M.out.knw).mono ?_
  rintro e w8 ⟨rfl, q⟩
  have M8 := M.out.keep q
  have M9 := M8.new (cv [⟨14, none, 0, 0⟩, ⟨1, none, 0, 0⟩]) 46 (g := w8.heap.size) rfl
  obtain ⟨w10, S10, M10⟩ := M9.single (P := Tryd.prog) 1 rfl 41 (.slice (some ⟨w8.heap.size, 0, none⟩) 2 2) 31 (cs' := mc (m1 t (.slice (some ⟨w8.heap.size, 0, none⟩) 2 2))) (by rw [mc_len (m0_fine HT.out.len)]; omega) size_opts rfl rfl (mc_opts (m0_fine HT.out.len) _)
  simp only [List.set_cons_zero, List.set_cons_succ] at M10
  have VS10 := veil S10
  have M := veil M10
  clear q M8 M9 S10 M10 VS7
  go_wp2_with (first
    | (refine wpList_build_of rfl 46 #[(0, .const (.int .u8 14))] rfl #[(0, .int .u8 14)] (by simp [Act.eval]) (made_opt 14 _) ?_; (try simp only [Act.put, List.setIfInBounds_toArray, List.set_cons_zero, List.set_cons_succ]))
    | (refine wpList_build_of rfl 46 #[(0, .const (.int .u8 1))] rfl #[(0, .int .u8 1)] (by simp [Act.eval]) (made_opt 1 _) ?_; (try simp only [Act.put, List.setIfInBounds_toArray, List.set_cons_zero, List.set_cons_succ]))
    | (refine Ad.slice_at (some 38) rfl rfl 31 2 #[(0, .tmp 36), (1, .tmp 37)] rfl #[(0, ov ⟨14, none, 0, 0⟩), (1, ov ⟨1, none, 0, 0⟩)] (by simp [Act.eval]) (made_two 14 1 _) ?_; (try simp only [Act.put, List.setIfInBounds_toArray, List.set_cons_zero, List.set_cons_succ]))
    | (refine wpList_store_of rfl (.tmp 39) (.tmp 38) rfl rfl rfl VS10.out ?_; (try simp only [Act.put, List.setIfInBounds_toArray, List.set_cons_zero, List.set_cons_succ]))
    | (refine wpList_load_of rfl (.tmp 7) rfl rfl (pktAt M.out.lay mem2 (k0_ends SO.out.len)).all ?_; (try simp only [Act.put, List.setIfInBounds_toArray, List.set_cons_zero, List.set_cons_succ]))
    | (refine wpList_load_of rfl (.tmp 8) rfl rfl (msgAt M.out.lay mem1 (m1_fine HT.out.len _)).all ?_; (try simp only [Act.put, List.setIfInBounds_toArray, List.set_cons_zero, List.set_cons_succ])))
  generalize w8.heap.size = go at *
  refine (call1 go SO.out HT.out M.out.knw (op1_bare (ks := [14, 1]) M.out.lay mem0 rfl (by omega))).mono ?_
  rintro e w11 ⟨rfl, q⟩
  have M11 := M.out.keep q
  obtain ⟨w12, S12, M12⟩ := M11.part (P := Tryd.prog) 2 rfl 0 (bv s) 23 (cs' := pc (k2 s (sol t)) nilV) (by rw [pc_len (k0_ends SO.out.len), bv_length, HS.out.len]; omega) (sizeAddr HS.out.len) (fun _ h => bv_byte h) (pc_puts rfl HS.out.len)
  simp only [List.set_cons_zero, List.set_cons_succ] at M12
  obtain ⟨w13, S13, M13⟩ := M12.part (P := Tryd.prog) 2 rfl 16 (bv d) 23 (cs' := pc (k2 s d) nilV) (by rw [pc_len (k2_ends HS.out.len SO.out.len), bv_length, HD.out.len]; omega) (sizeAddr HD.out.len) (fun _ h => bv_byte h) (pc_putd (k2_ends HS.out.len SO.out.len) HD.out.len)
  simp only [List.set_cons_zero, List.set_cons_succ] at M13
  have VL12 := veil (M11.lay.load (P := Tryd.prog) (List.mem_cons_of_mem _ (List.mem_cons_of_mem _ (List.mem_cons_of_mem _ List.mem_cons_self))) (part_all _) Tryd.underlying23 rfl (sizeAddr HS.out.len))
  have VL13 := veil (M12.lay.load (P := Tryd.prog) (List.mem_cons_of_mem _ (List.mem_cons_of_mem _ (List.mem_cons_of_mem _ (List.mem_cons_of_mem _ List.mem_cons_self)))) (part_all _) Tryd.underlying23 rfl (sizeAddr HD.out.len))
  have VS12 := veil S12
  have VS13 := veil S13
  have M := veil M13
  clear q M11 M12 M13 S12 S13 VS10
  go_wp2_with (first
    | (refine wpList_load_of rfl (.tmp 5) rfl rfl VL12.out ?_; (try simp only [Act.put, List.setIfInBounds_toArray, List.set_cons_zero, List.set_cons_succ]))
    | (refine wpList_store_of rfl (.tmp 44) (.tmp 43) rfl rfl rfl VS12.out ?_; (try simp only [Act.put, List.setIfInBounds_toArray, List.set_cons_zero, List.set_cons_succ]))
    | (refine wpList_load_of rfl (.tmp 4) rfl rfl VL13.out ?_; (try simp only [Act.put, List.setIfInBounds_toArray, List.set_cons_zero, List.set_cons_succ]))
    | (refine wpList_store_of rfl (.tmp 46) (.tmp 45) rfl rfl rfl VS13.out ?_; (try simp only [Act.put, List.setIfInBounds_toArray, List.set_cons_zero, List.set_cons_succ])))
  clear VL12 VL13 VS12 VS13 it
  have M := veil M.out.drew
  have ip := veil (sizePkt (v := nilV) (k2_ends HS.out.len HD.out.len))
  have im := veil (sizeMsg (m1_fine HT.out.len go))
  have is := veil (sizeAddr HS.out.len)
  refine wp_region_noPanic ?_
  refine wp_region_held_drew (S := (fun w' => ∀ x ∈ [(go, (46, cv [⟨14, none, 0, 0⟩, ⟨1, none, 0, 0⟩])), (gm, (35, mc (m1 t (.slice (some ⟨go, 0, none⟩) 2 2)))), (gp, (30, pc (k2 s d) nilV)), (w.heap.size + 1 + 1, (23, bv s)), (w.heap.size + 1, (23, bv d)), (w.heap.size, (23, bv t))], w'.rangeAt x.1 0 x.2.2)) (by kernel_rfl) M.out.rng (fun hHeld => ?_)
  refine wpAnyH_take (i := 0) (v := _) (by rfl) (by kernel_rfl) (by kernel_rfl) (by kernel_rfl) (fun _ _ _ h => h) (yieldsIf_load_mid (by rfl) _ _ (by rfl) _ _ rfl (pc (k2 s d) nilV) _ (fun _ h => h _ (List.mem_cons_of_mem _ (List.mem_cons_of_mem _ List.mem_cons_self))) Tryd.underlying30 rfl ip.out) hHeld ?_
  try simp only [Act.put, List.setIfInBounds_toArray, List.set_cons_zero, List.set_cons_succ, List.getElem_toArray, List.getElem_cons_zero, List.getElem_cons_succ]
  refine wpAnyH_take (i := 1) (v := _) (by rfl) (by kernel_rfl) (by kernel_rfl) (by kernel_rfl) (fun _ _ _ h => h) (yieldsIf_load_mid (by rfl) _ _ (by rfl) _ _ rfl (mc (m1 t (.slice (some ⟨go, 0, none⟩) 2 2))) _ (fun _ h => h _ (List.mem_cons_of_mem _ List.mem_cons_self)) Tryd.underlying35 rfl im.out) hHeld ?_
  try simp only [Act.put, List.setIfInBounds_toArray, List.set_cons_zero, List.set_cons_succ, List.getElem_toArray, List.getElem_cons_zero, List.getElem_cons_succ]
  refine wpAnyH_take (i := 3) (v := ?_) (by rfl) (by kernel_rfl) (by kernel_rfl) (by kernel_rfl) (fun _ _ _ h => h) (Or.inl ⟨by rfl, ?_⟩) hHeld ?_
  rotate_left
  · intro w' hSw
    (try dsimp only at hSw)
    simp only [List.getElem_toArray, List.getElem_cons_zero, List.getElem_cons_succ]
    go_simp
    all_goals (try with_reducible rfl)
  try simp only [Act.put, List.setIfInBounds_toArray, List.set_cons_zero, List.set_cons_succ, List.getElem_toArray, List.getElem_cons_zero, List.getElem_cons_succ]
  refine wpAnyH_take (i := 4) (v := ?_) (by rfl) (by kernel_rfl) (by kernel_rfl) (by kernel_rfl) (fun _ _ _ h => h) (Or.inl ⟨by rfl, ?_⟩) hHeld ?_
  rotate_left
  · intro w' hSw
    (try dsimp only at hSw)
    simp only [List.getElem_toArray, List.getElem_cons_zero, List.getElem_cons_succ]
    go_simp
    all_goals (try with_reducible rfl)
  try simp only [Act.put, List.setIfInBounds_toArray, List.set_cons_zero, List.set_cons_succ, List.getElem_toArray, List.getElem_cons_zero, List.getElem_cons_succ]
  refine wpAnyH_ready (rs := [2]) (by kernel_rfl) (by simp) ?_
  refine AllReadyH.cons (by rfl) (fun K hK => ?_) AllReadyH.nil
  simp only [List.getElem_toArray, List.getElem_cons_zero, List.getElem_cons_succ]
  go_simp
  refine (VC3.out _ go M.out.knw (op1_bare (ks := [14, 1]) M.out.lay mem0 rfl (by omega))).mono ?_
  rintro e w14 ⟨rfl, q⟩
  have M := veil (M.out.keep q)
  clear q
  (try dsimp only)
  refine hK.out _ _ M.out.rng (fun hHeld => ?_)
  clear hK K
  try simp only [Act.put, List.setIfInBounds_toArray, List.set_cons_zero, List.set_cons_succ, List.getElem_toArray, List.getElem_cons_zero, List.getElem_cons_succ]
  refine wpAnyH_take (i := 5) (v := ?_) (by rfl) (by kernel_rfl) (by kernel_rfl) (by kernel_rfl) (fun _ _ _ h => h) (Or.inl ⟨by rfl, ?_⟩) hHeld ?_
  rotate_left
  · intro w' hSw
    (try dsimp only at hSw)
    simp only [List.getElem_toArray, List.getElem_cons_zero, List.getElem_cons_succ]
    go_simp
    all_goals (try with_reducible rfl)
  try simp only [Act.put, List.setIfInBounds_toArray, List.set_cons_zero, List.set_cons_succ, List.getElem_toArray, List.getElem_cons_zero, List.getElem_cons_succ]
  refine wpAnyH_take (i := 6) (v := undef) (by rfl) (by kernel_rfl) (by kernel_rfl) (by kernel_rfl) (fun _ _ _ h => h) (Or.inr ⟨by rfl, rfl⟩) hHeld ?_
  try simp only [Act.put, List.setIfInBounds_toArray, List.set_cons_zero, List.set_cons_succ, List.getElem_toArray, List.getElem_cons_zero, List.getElem_cons_succ]
  refine wpAnyH_take (i := 7) (v := undef) (by rfl) (by kernel_rfl) (by kernel_rfl) (by kernel_rfl) (fun _ _ _ h => h) (Or.inr ⟨by rfl, rfl⟩) hHeld ?_
  try simp only [Act.put, List.setIfInBounds_toArray, List.set_cons_zero, List.set_cons_succ, List.getElem_toArray, List.getElem_cons_zero, List.getElem_cons_succ]
  refine wpAnyH_take (i := 8) (v := undef) (by rfl) (by kernel_rfl) (by kernel_rfl) (by kernel_rfl) (fun _ _ _ h => h) (Or.inr ⟨by rfl, rfl⟩) hHeld ?_
  try simp only [Act.put, List.setIfInBounds_toArray, List.set_cons_zero, List.set_cons_succ, List.getElem_toArray, List.getElem_cons_zero, List.getElem_cons_succ]
  refine wpAnyH_take (i := 9) (v := ?_) (by rfl) (by kernel_rfl) (by kernel_rfl) (by kernel_rfl) (fun _ _ _ h => h) (Or.inl ⟨by rfl, ?_⟩) hHeld ?_
  rotate_left
  · intro w' hSw
    (try dsimp only at hSw)
    simp only [List.getElem_toArray, List.getElem_cons_zero, List.getElem_cons_succ]
    go_simp
    all_goals (try with_reducible rfl)
  try simp only [Act.put, List.setIfInBounds_toArray, List.set_cons_zero, List.set_cons_succ, List.getElem_toArray, List.getElem_cons_zero, List.getElem_cons_succ]
  refine wpAnyH_take (i := 10) (v := ?_) (by rfl) (by kernel_rfl) (by kernel_rfl) (by kernel_rfl) (fun _ _ _ h => h) (Or.inl ⟨by rfl, ?_⟩) hHeld ?_
  rotate_left
  · intro w' hSw
    (try dsimp only at hSw)
    simp only [List.getElem_toArray, List.getElem_cons_zero, List.getElem_cons_succ]
    go_simp
    all_goals (try with_reducible rfl)
  try simp only [Act.put, List.setIfInBounds_toArray, List.set_cons_zero, List.set_cons_succ, List.getElem_toArray, List.getElem_cons_zero, List.getElem_cons_succ]
  refine wpAnyH_take (i := 11) (v := ?_) (by rfl) (by kernel_rfl) (by kernel_rfl) (by kernel_rfl) (fun _ _ _ h => h) (Or.inl ⟨by rfl, ?_⟩) hHeld ?_
  rotate_left
  · intro w' hSw
    (try dsimp only at hSw)
    simp only [List.getElem_toArray, List.getElem_cons_zero, List.getElem_cons_succ]
    go_simp
    all_goals (try with_reducible rfl)
  try simp only [Act.put, List.setIfInBounds_toArray, List.set_cons_zero, List.set_cons_succ, List.getElem_toArray, List.getElem_cons_zero, List.getElem_cons_succ]
  refine wpAnyH_ready (rs := [12]) (by kernel_rfl) (by simp) ?_
  refine AllReadyH.cons (by rfl) (fun K hK => ?_) AllReadyH.nil
  simp only [List.getElem_toArray, List.getElem_cons_zero, List.getElem_cons_succ]
  go_simp
  refine (lives_true _ M.out.knw).mono ?_
  rintro e w16 ⟨rfl, q⟩
  have M := veil (M.out.keep q)
  clear q
  (try dsimp only)
  refine hK.out _ _ M.out.rng (fun hHeld => ?_)
  clear hK K
  try simp only [Act.put, List.setIfInBounds_toArray, List.set_cons_zero, List.set_cons_succ, List.getElem_toArray, List.getElem_cons_zero, List.getElem_cons_succ]
  refine wpAnyH_take (i := 13) (v := ?_) (by rfl) (by kernel_rfl) (by kernel_rfl) (by kernel_rfl) (fun _ _ _ h => h) (Or.inl ⟨by rfl, ?_⟩) hHeld ?_
  rotate_left
  · intro w' hSw
    (try dsimp only at hSw)
    simp only [List.getElem_toArray, List.getElem_cons_zero, List.getElem_cons_succ]
    go_simp
    all_goals (try with_reducible rfl)
  try simp only [Act.put, List.setIfInBounds_toArray, List.set_cons_zero, List.set_cons_succ, List.getElem_toArray, List.getElem_cons_zero, List.getElem_cons_succ]
  refine wpAnyH_take (i := 14) (v := ?_) (by rfl) (by kernel_rfl) (by kernel_rfl) (by kernel_rfl) (fun _ _ _ h => h) (Or.inl ⟨by rfl, ?_⟩) hHeld ?_
  rotate_left
  · intro w' hSw
    (try dsimp only at hSw)
    simp only [List.getElem_toArray, List.getElem_cons_zero, List.getElem_cons_succ]
    go_simp
    all_goals (try with_reducible rfl)
  try simp only [Act.put, List.setIfInBounds_toArray, List.set_cons_zero, List.set_cons_succ, List.getElem_toArray, List.getElem_cons_zero, List.getElem_cons_succ]
  refine wpAnyH_done (by kernel_rfl) ?_ _
  refine NoPanic.normal ?_
  clear hHeld
  go_wp2_with fail
  go_ret
  exact ⟨rfl, M.out.below⟩

set_option linter.unusedSimpArgs false in
set_option maxHeartbeats 8000000 in
theorem walkTT (t d s : List Int) (w : World) (ht : Ok t) (hd : Ok d) (hs : Ok s) (hk : Knw w) (hm : mult t = false) (hz : decide (d = sol t) = true) (hn : nob s = true) :
    Calls Tryd.prog 6 #[av t, av d, av s] w fun e w' => e = .returned (.bool true) ∧ Below w.heap.size w w' := by
  obtain ⟨ZP, hZP⟩ : ∃ Z : Array Value, Z = #[.int .u8 0, .int .u8 0, .int .u8 0, .int .u8 0, .int .u8 0, .int .u8 0, .int .u8 0, .int .u8 0, .int .u8 0, .int .u8 0, .int .u8 0, .int .u8 0, .int .u8 0, .int .u8 0, .int .u8 0, .int .u8 0, .int .u8 0, .int .u8 0, .int .u8 0, .int .u8 0, .int .u8 0, .int .u8 0, .int .u8 0, .int .u8 0, .int .u8 0, .int .u8 0, .int .u8 0, .int .u8 0, .int .u8 0, .int .u8 0, .int .u8 0, .int .u8 0, .int .u8 0, .bool false, .bool false, .int .u32 0, .int .u16 0, .bool false, .int .u8 0, .slice none 0 0] := ⟨_, rfl⟩
  obtain ⟨ZM, hZM⟩ : ∃ Z : Array Value, Z = #[.int .u8 0, .int .u8 0, .int .u32 0, .slice none 0 0, .int .u8 0, .int .u8 0, .int .u16 0, .int .u32 0, .int .u32 0, .int .u8 0, .int .u8 0, .int .u8 0, .int .u8 0, .int .u8 0, .int .u8 0, .int .u8 0, .int .u8 0, .int .u8 0, .int .u8 0, .int .u8 0, .int .u8 0, .int .u8 0, .int .u8 0, .int .u8 0, .int .u8 0, .int .u8 0, .int .u8 0, .int .u8 0, .int .u8 0, .int .u8 0, .int .u8 0, .int .u8 0, .int .u8 0, .int .u8 0, .int .u8 0, .int .u8 0, .int .u8 0, .int .u8 0, .int .u8 0, .int .u8 0, .int .u8 0, .slice none 0 0, .int .u16 0, .int .u8 0, .int .u8 0, .int .u8 0, .int .u8 0, .int .u8 0, .int .u8 0, .int .u8 0, .int .u8 0, .int .u8 0, .int .u8 0, .int .u8 0, .int .u8 0, .int .u8 0, .int .u8 0, .int .u8 0, .int .u8 0, .int .u8 0, .int .u8 0, .slice none 0 0, .slice none 0 0] := ⟨_, rfl⟩
  have sP : ZP.size = 40 := by rw [hZP]; rfl
  have sM : ZM.size = 63 := by rw [hZM]; rfl
  have M0 := (((Kw.begin hk).new (bv t) 23 (g := w.heap.size) rfl).new (bv d) 23 (g := w.heap.size + 1) (by simp)).new (bv s) 23 (g := w.heap.size + 1 + 1) (by simp)
  obtain ⟨wb, hwb⟩ : ∃ x, ((w.alloc (.cells (bv t).toArray 23)).alloc (.cells (bv d).toArray 23)).alloc (.cells (bv s).toArray 23) = x := ⟨_, rfl⟩
  rw [hwb] at M0
  have L1 := M0.lay.load (P := Tryd.prog) mem1 (part_all _) Tryd.underlying23 rfl (sizeAddr hd.len)
  obtain ⟨w1, S1, M1⟩ := M0.fresh (P := Tryd.prog) ZP 30 (pc (k0 d) nilV) (by rw [sP, pc_len (k0_ends hd.len)]) (sizePkt (k0_ends hd.len)) (pc_one rfl)
  have szb : wb.heap.size = w.heap.size + 1 + 1 + 1 := by rw [← hwb]; simp
  rw [szb] at S1 M1
  clear szb
  have L2 := M1.lay.load (P := Tryd.prog) mem3 (part_all _) Tryd.underlying23 rfl (sizeAddr ht.len)
  obtain ⟨w2, S2, M2⟩ := M1.fresh (P := Tryd.prog) ZM 35 (mc (m0 t)) (by rw [sM, mc_len (m0_fine ht.len)]) (sizeMsg (m0_fine ht.len)) (mc_one (m0_fine ht.len))
  have L3 := M2.lay.load (P := Tryd.prog) mem4 (part_all _) Tryd.underlying23 rfl (sizeAddr ht.len)
  have VS1 := veil S1
  have VS2 := veil S2
  have VL1 := veil L1
  have VL2 := veil L2
  have VL3 := veil L3
  have M := veil M2
  have HT := veil ht
  have HD := veil hd
  have HS := veil hs
  have HMU := veil hm
  have SO := veil (sol_ok ht)
  have C0 : ∀ u, Knw u → Calls Tryd.prog 11 #[pv (k0 d) nilV, mv (m0 t)] u fun e w' => e = .returned (.bool true) ∧ Below u.heap.size u w' := fun u hu => call0 _ hd ht hu (by rw [hm, hz]; rfl)
  have E0 : ∀ u, (binOp .eql 23 (av d) (av (sol t))).run Tryd.prog u = .ok (.bool true) u := fun u => by rw [eql_any u hd.len (sol_ok ht).len hz]
  have E1 : ∀ u, (binOp .neq 23 (av s) (av (kn 0))).run Tryd.prog u = .ok (.bool false) u := fun u => by rw [neq_any u hs.len (kn_len (by omega)) hn]; rfl
  have C1 : ∀ u, Knw u → Calls Tryd.prog 11 #[pv (k0 (sol t)) nilV, mv (m0 t)] u fun e w' => e = .returned (.bool true) ∧ Below u.heap.size u w' := fun u hu => call0 _ (sol_ok ht) ht hu (by rw [hm]; simp)
  have C3 : ∀ u g, Knw u → Op1 u (.slice (some ⟨g, 0, none⟩) 2 2) two → Calls Tryd.prog 11 #[pv (k2 s d) nilV, mv (m1 t (.slice (some ⟨g, 0, none⟩) 2 2))] u fun e w' => e = .returned (.bool false) ∧ Below u.heap.size u w' := fun u g hu ho => call2 _ g hs hd ht hu ho (by rw [hm, hn]; rfl)
  have VC0 := veil C0
  have VC1 := veil C1
  have VC3 := veil C3
  have VE0 := veil E0
  have VE1 := veil E1
  clear E0 E1 hz hn
  clear M0 M1 M2 S1 S2 L1 L2 L3 sP sM ht hd hs hk hm C0 C1 C3
  subst hwb hZP hZM
  go_enter Tryd.func6, Tryd.ntmps6
  go_wp2_with (first
    | (refine wpList_load_of rfl (.tmp 4) rfl rfl VL1.out ?_; (try simp only [Act.put, List.setIfInBounds_toArray, List.set_cons_zero, List.set_cons_succ]))
    | (refine wpList_build_of rfl 30 #[(1, .tmp 10), (2, .const (.int .u8 255))] rfl #[(1, av d), (2, .int .u8 255)] (by simp [Act.eval]) (made_dst HD.out.len 255 _) ?_; (try simp only [Act.put, List.setIfInBounds_toArray, List.set_cons_zero, List.set_cons_succ]))
    | (refine wpList_store_of rfl (.tmp 7) (.tmp 11) rfl rfl rfl VS1.out ?_; (try simp only [Act.put, List.setIfInBounds_toArray, List.set_cons_zero, List.set_cons_succ]))
    | (refine wpList_load_of rfl (.tmp 3) rfl rfl VL2.out ?_; (try simp only [Act.put, List.setIfInBounds_toArray, List.set_cons_zero, List.set_cons_succ]))
    | (refine wpList_build_of rfl 35 #[(0, .const (.int .u8 135)), (9, .tmp 12)] rfl #[(0, .int .u8 135), (9, av t)] (by simp [Act.eval]) (made_target HT.out.len 135 _) ?_; (try simp only [Act.put, List.setIfInBounds_toArray, List.set_cons_zero, List.set_cons_succ]))
    | (refine wpList_store_of rfl (.tmp 8) (.tmp 13) rfl rfl rfl VS2.out ?_; (try simp only [Act.put, List.setIfInBounds_toArray, List.set_cons_zero, List.set_cons_succ]))
    | (refine wpList_load_of rfl (.tmp 3) rfl rfl VL3.out ?_; (try simp only [Act.put, List.setIfInBounds_toArray, List.set_cons_zero, List.set_cons_succ])))
  refine (isMulticast_any t _ HT.out).mono ?_
  rintro e w3 ⟨rfl, q⟩
  have M := veil (M.out.keep q)
  clear q VS1 VS2 VL1 VL2 VL3
  rw [HMU.out]
  generalize ((w.alloc (.cells (bv t).toArray 23)).alloc (.cells (bv d).toArray 23)).alloc (.cells (bv s).toArray 23) = wb at *
  generalize w.heap.size + 1 + 1 + 1 = gp at *
  generalize w1.heap.size = gm at *
  go_wp2_with fail
  have M := veil M.out.drew
  have ip := veil (sizePkt (v := nilV) (k0_ends HD.out.len))
  have im := veil (sizeMsg (m0_fine HT.out.len))
  have id := veil (sizeAddr HD.out.len)
  have it := veil (sizeAddr HT.out.len)
  refine wp_region_noPanic ?_
  refine wp_region_held_drew (S := (fun w' => ∀ x ∈ [(gm, (35, mc (m0 t))), (gp, (30, pc (k0 d) nilV)), (w.heap.size + 1 + 1, (23, bv s)), (w.heap.size + 1, (23, bv d)), (w.heap.size, (23, bv t))], w'.rangeAt x.1 0 x.2.2)) (by kernel_rfl) M.out.rng (fun hHeld => ?_)
  refine wpAnyH_take (i := 0) (v := _) (by rfl) (by kernel_rfl) (by kernel_rfl) (by kernel_rfl) (fun _ _ _ h => h) (yieldsIf_load_mid (by rfl) _ _ (by rfl) _ _ rfl (pc (k0 d) nilV) _ (fun _ h => h _ (List.mem_cons_of_mem _ List.mem_cons_self)) Tryd.underlying30 rfl ip.out) hHeld ?_
  try simp only [Act.put, List.setIfInBounds_toArray, List.set_cons_zero, List.set_cons_succ, List.getElem_toArray, List.getElem_cons_zero, List.getElem_cons_succ]
  refine wpAnyH_take (i := 1) (v := _) (by rfl) (by kernel_rfl) (by kernel_rfl) (by kernel_rfl) (fun _ _ _ h => h) (yieldsIf_load_mid (by rfl) _ _ (by rfl) _ _ rfl (mc (m0 t)) _ (fun _ h => h _ List.mem_cons_self) Tryd.underlying35 rfl im.out) hHeld ?_
  try simp only [Act.put, List.setIfInBounds_toArray, List.set_cons_zero, List.set_cons_succ, List.getElem_toArray, List.getElem_cons_zero, List.getElem_cons_succ]
  refine wpAnyH_take (i := 3) (v := ?_) (by rfl) (by kernel_rfl) (by kernel_rfl) (by kernel_rfl) (fun _ _ _ h => h) (Or.inl ⟨by rfl, ?_⟩) hHeld ?_
  rotate_left
  · intro w' hSw
    (try dsimp only at hSw)
    simp only [List.getElem_toArray, List.getElem_cons_zero, List.getElem_cons_succ]
    go_simp
    all_goals (try with_reducible rfl)
  try simp only [Act.put, List.setIfInBounds_toArray, List.set_cons_zero, List.set_cons_succ, List.getElem_toArray, List.getElem_cons_zero, List.getElem_cons_succ]
  refine wpAnyH_take (i := 4) (v := ?_) (by rfl) (by kernel_rfl) (by kernel_rfl) (by kernel_rfl) (fun _ _ _ h => h) (Or.inl ⟨by rfl, ?_⟩) hHeld ?_
  rotate_left
  · intro w' hSw
    (try dsimp only at hSw)
    simp only [List.getElem_toArray, List.getElem_cons_zero, List.getElem_cons_succ]
    go_simp
    all_goals (try with_reducible rfl)
  try simp only [Act.put, List.setIfInBounds_toArray, List.set_cons_zero, List.set_cons_succ, List.getElem_toArray, List.getElem_cons_zero, List.getElem_cons_succ]
  refine wpAnyH_ready (rs := [2]) (by kernel_rfl) (by simp) ?_
  refine AllReadyH.cons (by rfl) (fun K hK => ?_) AllReadyH.nil
  simp only [List.getElem_toArray, List.getElem_cons_zero, List.getElem_cons_succ]
  go_simp
  refine (VC0.out _ M.out.knw).mono ?_
  rintro e w4 ⟨rfl, q⟩
  have M := veil (M.out.keep q)
  clear q
  (try dsimp only)
  refine hK.out _ _ M.out.rng (fun hHeld => ?_)
  clear hK K
  try simp only [Act.put, List.setIfInBounds_toArray, List.set_cons_zero, List.set_cons_succ, List.getElem_toArray, List.getElem_cons_zero, List.getElem_cons_succ]
  refine wpAnyH_take (i := 5) (v := ?_) (by rfl) (by kernel_rfl) (by kernel_rfl) (by kernel_rfl) (fun _ _ _ h => h) (Or.inl ⟨by rfl, ?_⟩) hHeld ?_
  rotate_left
  · intro w' hSw
    (try dsimp only at hSw)
    simp only [List.getElem_toArray, List.getElem_cons_zero, List.getElem_cons_succ]
    go_simp
    all_goals (try with_reducible rfl)
  try simp only [Act.put, List.setIfInBounds_toArray, List.set_cons_zero, List.set_cons_succ, List.getElem_toArray, List.getElem_cons_zero, List.getElem_cons_succ]
  refine wpAnyH_take (i := 6) (v := _) (by rfl) (by kernel_rfl) (by kernel_rfl) (by kernel_rfl) (fun _ _ _ h => h) (yieldsIf_load_mid (by rfl) _ _ (by rfl) _ _ rfl (bv d) _ (fun _ h => h _ (List.mem_cons_of_mem _ (List.mem_cons_of_mem _ (List.mem_cons_of_mem _ List.mem_cons_self)))) Tryd.underlying23 rfl id.out) hHeld ?_
  try simp only [Act.put, List.setIfInBounds_toArray, List.set_cons_zero, List.set_cons_succ, List.getElem_toArray, List.getElem_cons_zero, List.getElem_cons_succ]
  refine wpAnyH_take (i := 7) (v := _) (by rfl) (by kernel_rfl) (by kernel_rfl) (by kernel_rfl) (fun _ _ _ h => h) (yieldsIf_load_mid (by rfl) _ _ (by rfl) _ _ rfl (bv t) _ (fun _ h => h _ (List.mem_cons_of_mem _ (List.mem_cons_of_mem _ (List.mem_cons_of_mem _ (List.mem_cons_of_mem _ List.mem_cons_self))))) Tryd.underlying23 rfl it.out) hHeld ?_
  try simp only [Act.put, List.setIfInBounds_toArray, List.set_cons_zero, List.set_cons_succ, List.getElem_toArray, List.getElem_cons_zero, List.getElem_cons_succ]
  refine wpAnyH_ready (rs := [8]) (by kernel_rfl) (by simp) ?_
  refine AllReadyH.cons (by rfl) (fun K hK => ?_) AllReadyH.nil
  simp only [List.getElem_toArray, List.getElem_cons_zero, List.getElem_cons_succ]
  go_simp
  refine (solicited_any t _ HT.out).mono ?_
  rintro e w5 ⟨rfl, q⟩
  have M := veil (M.out.keep q)
  clear q
  have E0 := VE0.out
  (try dsimp only)
  refine hK.out _ _ M.out.rng (fun hHeld => ?_)
  clear hK K
  try simp only [Act.put, List.setIfInBounds_toArray, List.set_cons_zero, List.set_cons_succ, List.getElem_toArray, List.getElem_cons_zero, List.getElem_cons_succ]
  refine wpAnyH_take (i := 9) (v := ?_) (by rfl) (by kernel_rfl) (by kernel_rfl) (by kernel_rfl) (fun _ _ _ h => h) (Or.inl ⟨by rfl, ?_⟩) hHeld ?_
  rotate_left
  · intro w' hSw
    (try dsimp only at hSw)
    simp only [List.getElem_toArray, List.getElem_cons_zero, List.getElem_cons_succ]
    go_simp
    all_goals (try with_reducible rfl)
  try simp only [Act.put, List.setIfInBounds_toArray, List.set_cons_zero, List.set_cons_succ, List.getElem_toArray, List.getElem_cons_zero, List.getElem_cons_succ]
  clear E0
  refine wpAnyH_take (i := 10) (v := ?_) (by rfl) (by kernel_rfl) (by kernel_rfl) (by kernel_rfl) (fun _ _ _ h => h) (Or.inl ⟨by rfl, ?_⟩) hHeld ?_
  rotate_left
  · intro w' hSw
    (try dsimp only at hSw)
    simp only [List.getElem_toArray, List.getElem_cons_zero, List.getElem_cons_succ]
    go_simp
    all_goals (try with_reducible rfl)
  try simp only [Act.put, List.setIfInBounds_toArray, List.set_cons_zero, List.set_cons_succ, List.getElem_toArray, List.getElem_cons_zero, List.getElem_cons_succ]
  refine wpAnyH_take (i := 11) (v := ?_) (by rfl) (by kernel_rfl) (by kernel_rfl) (by kernel_rfl) (fun _ _ _ h => h) (Or.inl ⟨by rfl, ?_⟩) hHeld ?_
  rotate_left
  · intro w' hSw
    (try dsimp only at hSw)
    simp only [List.getElem_toArray, List.getElem_cons_zero, List.getElem_cons_succ]
    go_simp
    all_goals (try with_reducible rfl)
  try simp only [Act.put, List.setIfInBounds_toArray, List.set_cons_zero, List.set_cons_succ, List.getElem_toArray, List.getElem_cons_zero, List.getElem_cons_succ]
  refine wpAnyH_done (by kernel_rfl) ?_ _
  refine NoPanic.normal ?_
  clear hHeld
  clear ip im id
  go_wp2_with (refine wpList_load_of rfl (.tmp 3) rfl rfl (M.out.lay.load (List.mem_cons_of_mem _ (List.mem_cons_of_mem _ (List.mem_cons_of_mem _ (List.mem_cons_of_mem _ List.mem_cons_self)))) (part_all _) Tryd.underlying23 rfl it.out) ?_; (try simp only [Act.put, List.setIfInBounds_toArray, List.set_cons_zero, List.set_cons_succ]))
  refine (solicited_any t _ HT.out).mono ?_
  rintro e w6 ⟨rfl, q⟩
  obtain ⟨w7, S7, M7⟩ := (M.out.keep q).part (P := Tryd.prog) 1 rfl 16 (bv (sol t)) 23 (cs' := pc (k0 (sol t)) nilV) (by rw [pc_len (k0_ends HD.out.len), bv_length, SO.out.len]; omega) (sizeAddr SO.out.len) (fun _ h => bv_byte h) (pc_putd (k0_ends HD.out.len) SO.out.len)
  simp only [List.set_cons_zero, List.set_cons_succ] at M7
  have VS7 := veil S7
  have M := veil M7
  clear q S7 M7
  go_wp2_with (first
    | (refine wpList_store_of rfl (.tmp 30) (.tmp 29) rfl rfl rfl VS7.out ?_; (try simp only [Act.put, List.setIfInBounds_toArray, List.set_cons_zero, List.set_cons_succ]))
    | (refine wpList_load_of rfl (.tmp 7) rfl rfl (pktAt M.out.lay mem1 (k0_ends SO.out.len)).all ?_; (try simp only [Act.put, List.setIfInBounds_toArray, List.set_cons_zero, List.set_cons_succ]))
    | (refine wpList_load_of rfl (.tmp 8) rfl rfl (msgAt M.out.lay mem0 (m0_fine HT.out.len)).all ?_; (try simp only [Act.put, List.setIfInBounds_toArray, List.set_cons_zero, List.set_cons_succ])))
  refine (VC1.out _ M.out.knw).mono ?_
  rintro e w8 ⟨rfl, q⟩
  have M8 := M.out.keep q
  have M9 := M8.new (cv [⟨14, none, 0, 0⟩, ⟨1, none, 0, 0⟩]) 46 (g := w8.heap.size) rfl
  obtain ⟨w10, S10, M10⟩ := M9.single (P := Tryd.prog) 1 rfl 41 (.slice (some ⟨w8.heap.size, 0, none⟩) 2 2) 31 (cs' := mc (m1 t (.slice (some ⟨w8.heap.size, 0, none⟩) 2 2))) (by rw [mc_len (m0_fine HT.out.len)]; omega) size_opts rfl rfl (mc_opts (m0_fine HT.out.len) _)
  simp only [List.set_cons_zero, List.set_cons_succ] at M10
  have VS10 := veil S10
  have M := veil M10
  clear q M8 M9 S10 M10 VS7
  go_wp2_with (first
    | (refine wpList_build_of rfl 46 #[(0, .const (.int .u8 14))] rfl #[(0, .int .u8 14)] (by simp [Act.eval]) (made_opt 14 _) ?_; (try simp only [Act.put, List.setIfInBounds_toArray, List.set_cons_zero, List.set_cons_succ]))
    | (refine wpList_build_of rfl 46 #[(0, .const (.int .u8 1))] rfl #[(0, .int .u8 1)] (by simp [Act.eval]) (made_opt 1 _) ?_; (try simp only [Act.put, List.setIfInBounds_toArray, List.set_cons_zero, List.set_cons_succ]))
    | (refine Ad.slice_at (some 38) rfl rfl 31 2 #[(0, .tmp 36), (1, .tmp 37)] rfl #[(0, ov ⟨14, none, 0, 0⟩), (1, ov ⟨1, none, 0, 0⟩)] (by simp [Act.eval]) (made_two 14 1 _) ?_; (try simp only [Act.put, List.setIfInBounds_toArray, List.set_cons_zero, List.set_cons_succ]))
    | (refine wpList_store_of rfl (.tmp 39) (.tmp 38) rfl rfl rfl VS10.out ?_; (try simp only [Act.put, List.setIfInBounds_toArray, List.set_cons_zero, List.set_cons_succ]))
    | (refine wpList_load_of rfl (.tmp 7) rfl rfl (pktAt M.out.lay mem2 (k0_ends SO.out.len)).all ?_; (try simp only [Act.put, List.setIfInBounds_toArray, List.set_cons_zero, List.set_cons_succ]))
    | (refine wpList_load_of rfl (.tmp 8) rfl rfl (msgAt M.out.lay mem1 (m1_fine HT.out.len _)).all ?_; (try simp only [Act.put, List.setIfInBounds_toArray, List.set_cons_zero, List.set_cons_succ])))
  generalize w8.heap.size = go at *
  refine (call1 go SO.out HT.out M.out.knw (op1_bare (ks := [14, 1]) M.out.lay mem0 rfl (by omega))).mono ?_
  rintro e w11 ⟨rfl, q⟩
  have M11 := M.out.keep q
  obtain ⟨w12, S12, M12⟩ := M11.part (P := Tryd.prog) 2 rfl 0 (bv s) 23 (cs' := pc (k2 s (sol t)) nilV) (by rw [pc_len (k0_ends SO.out.len), bv_length, HS.out.len]; omega) (sizeAddr HS.out.len) (fun _ h => bv_byte h) (pc_puts rfl HS.out.len)
  simp only [List.set_cons_zero, List.set_cons_succ] at M12
  obtain ⟨w13, S13, M13⟩ := M12.part (P := Tryd.prog) 2 rfl 16 (bv d) 23 (cs' := pc (k2 s d) nilV) (by rw [pc_len (k2_ends HS.out.len SO.out.len), bv_length, HD.out.len]; omega) (sizeAddr HD.out.len) (fun _ h => bv_byte h) (pc_putd (k2_ends HS.out.len SO.out.len) HD.out.len)
  simp only [List.set_cons_zero, List.set_cons_succ] at M13
  have VL12 := veil (M11.lay.load (P := Tryd.prog) (List.mem_cons_of_mem _ (List.mem_cons_of_mem _ (List.mem_cons_of_mem _ List.mem_cons_self))) (part_all _) Tryd.underlying23 rfl (sizeAddr HS.out.len))
  have VL13 := veil (M12.lay.load (P := Tryd.prog) (List.mem_cons_of_mem _ (List.mem_cons_of_mem _ (List.mem_cons_of_mem _ (List.mem_cons_of_mem _ List.mem_cons_self)))) (part_all _) Tryd.underlying23 rfl (sizeAddr HD.out.len))
  have VS12 := veil S12
  have VS13 := veil S13
  have M := veil M13
  clear q M11 M12 M13 S12 S13 VS10
  go_wp2_with (first
    | (refine wpList_load_of rfl (.tmp 5) rfl rfl VL12.out ?_; (try simp only [Act.put, List.setIfInBounds_toArray, List.set_cons_zero, List.set_cons_succ]))
    | (refine wpList_store_of rfl (.tmp 44) (.tmp 43) rfl rfl rfl VS12.out ?_; (try simp only [Act.put, List.setIfInBounds_toArray, List.set_cons_zero, List.set_cons_succ]))
    | (refine wpList_load_of rfl (.tmp 4) rfl rfl VL13.out ?_; (try simp only [Act.put, List.setIfInBounds_toArray, List.set_cons_zero, List.set_cons_succ]))
    | (refine wpList_store_of rfl (.tmp 46) (.tmp 45) rfl rfl rfl VS13.out ?_; (try simp only [Act.put, List.setIfInBounds_toArray, List.set_cons_zero, List.set_cons_succ])))
  clear VL12 VL13 VS12 VS13 it
  have M := veil M.out.drew
  have ip := veil (sizePkt (v := nilV) (k2_ends HS.out.len HD.out.len))
  have im := veil (sizeMsg (m1_fine HT.out.len go))
  have is := veil (sizeAddr HS.out.len)
  refine wp_region_noPanic ?_
  refine wp_region_held_drew (S := (fun w' => ∀ x ∈ [(go, (46, cv [⟨14, none, 0, 0⟩, ⟨1, none, 0, 0⟩])), (gm, (35, mc (m1 t (.slice (some ⟨go, 0, none⟩) 2 2)))), (gp, (30, pc (k2 s d) nilV)), (w.heap.size + 1 + 1, (23, bv s)), (w.heap.size + 1, (23, bv d)), (w.heap.size, (23, bv t))], w'.rangeAt x.1 0 x.2.2)) (by kernel_rfl) M.out.rng (fun hHeld => ?_)
  refine wpAnyH_take (i := 0) (v := _) (by rfl) (by kernel_rfl) (by kernel_rfl) (by kernel_rfl) (fun _ _ _ h => h) (yieldsIf_load_mid (by rfl) _ _ (by rfl) _ _ rfl (pc (k2 s d) nilV) _ (fun _ h => h _ (List.mem_cons_of_mem _ (List.mem_cons_of_mem _ List.mem_cons_self))) Tryd.underlying30 rfl ip.out) hHeld ?_
  try simp only [Act.put, List.setIfInBounds_toArray, List.set_cons_zero, List.set_cons_succ, List.getElem_toArray, List.getElem_cons_zero, List.getElem_cons_succ]
  refine wpAnyH_take (i := 1) (v := _) (by rfl) (by kernel_rfl) (by kernel_rfl) (by kernel_rfl) (fun _ _ _ h => h) (yieldsIf_load_mid (by rfl) _ _ (by rfl) _ _ rfl (mc (m1 t (.slice (some ⟨go, 0, none⟩) 2 2))) _ (fun _ h => h _ (List.mem_cons_of_mem _ List.mem_cons_self)) Tryd.underlying35 rfl im.out) hHeld ?_
  try simp only [Act.put, List.setIfInBounds_toArray, List.set_cons_zero, List.set_cons_succ, List.getElem_toArray, List.getElem_cons_zero, List.getElem_cons_succ]
  refine wpAnyH_take (i := 3) (v := ?_) (by rfl) (by kernel_rfl) (by kernel_rfl) (by kernel_rfl) (fun _ _ _ h => h) (Or.inl ⟨by rfl, ?_⟩) hHeld ?_
  rotate_left
  · intro w' hSw
    (try dsimp only at hSw)
    simp only [List.getElem_toArray, List.getElem_cons_zero, List.getElem_cons_succ]
    go_simp
    all_goals (try with_reducible rfl)
  try simp only [Act.put, List.setIfInBounds_toArray, List.set_cons_zero, List.set_cons_succ, List.getElem_toArray, List.getElem_cons_zero, List.getElem_cons_succ]
  refine wpAnyH_take (i := 4) (v := ?_) (by rfl) (by kernel_rfl) (by kernel_rfl) (by kernel_rfl) (fun _ _ _ h => h) (Or.inl ⟨by rfl, ?_⟩) hHeld ?_
  rotate_left
  · intro w' hSw
    (try dsimp only at hSw)
    simp only [List.getElem_toArray, List.getElem_cons_zero, List.getElem_cons_succ]
    go_simp
    all_goals (try with_reducible rfl)
  try simp only [Act.put, List.setIfInBounds_toArray, List.set_cons_zero, List.set_cons_succ, List.getElem_toArray, List.getElem_cons_zero, List.getElem_cons_succ]
  refine wpAnyH_ready (rs := [2]) (by kernel_rfl) (by simp) ?_
  refine AllReadyH.cons (by rfl) (fun K hK => ?_) AllReadyH.nil
  simp only [List.getElem_toArray, List.getElem_cons_zero, List.getElem_cons_succ]
  go_simp
  refine (VC3.out _ go M.out.knw (op1_bare (ks := [14, 1]) M.out.lay mem0 rfl (by omega))).mono ?_
  rintro e w14 ⟨rfl, q⟩
  have M := veil (M.out.keep q)
  clear q
  (try dsimp only)
  refine hK.out _ _ M.out.rng (fun hHeld => ?_)
  clear hK K
  try simp only [Act.put, List.setIfInBounds_toArray, List.set_cons_zero, List.set_cons_succ, List.getElem_toArray, List.getElem_cons_zero, List.getElem_cons_succ]
  refine wpAnyH_take (i := 5) (v := ?_) (by rfl) (by kernel_rfl) (by kernel_rfl) (by kernel_rfl) (fun _ _ _ h => h) (Or.inl ⟨by rfl, ?_⟩) hHeld ?_
  rotate_left
  · intro w' hSw
    (try dsimp only at hSw)
    simp only [List.getElem_toArray, List.getElem_cons_zero, List.getElem_cons_succ]
    go_simp
    all_goals (try with_reducible rfl)
  try simp only [Act.put, List.setIfInBounds_toArray, List.set_cons_zero, List.set_cons_succ, List.getElem_toArray, List.getElem_cons_zero, List.getElem_cons_succ]
  refine wpAnyH_take (i := 6) (v := _) (by rfl) (by kernel_rfl) (by kernel_rfl) (by kernel_rfl) (fun _ _ _ h => h) (yieldsIf_load_mid (by rfl) _ _ (by rfl) _ _ rfl (bv s) _ (fun _ h => h _ (List.mem_cons_of_mem _ (List.mem_cons_of_mem _ (List.mem_cons_of_mem _ List.mem_cons_self)))) Tryd.underlying23 rfl is.out) hHeld ?_
  try simp only [Act.put, List.setIfInBounds_toArray, List.set_cons_zero, List.set_cons_succ, List.getElem_toArray, List.getElem_cons_zero, List.getElem_cons_succ]
  refine wpAnyH_ready (rs := [7]) (by kernel_rfl) (by simp) ?_
  refine AllReadyH.cons (by rfl) (fun K hK => ?_) AllReadyH.nil
  simp only [List.getElem_toArray, List.getElem_cons_zero, List.getElem_cons_succ]
  go_simp
  refine (unspecified_any _ M.out.knw).mono ?_
  rintro e w15 ⟨rfl, q⟩
  have M := veil (M.out.keep q)
  clear q
  have E1 := VE1.out
  (try dsimp only)
  refine hK.out _ _ M.out.rng (fun hHeld => ?_)
  clear hK K
  try simp only [Act.put, List.setIfInBounds_toArray, List.set_cons_zero, List.set_cons_succ, List.getElem_toArray, List.getElem_cons_zero, List.getElem_cons_succ]
  refine wpAnyH_take (i := 8) (v := ?_) (by rfl) (by kernel_rfl) (by kernel_rfl) (by kernel_rfl) (fun _ _ _ h => h) (Or.inl ⟨by rfl, ?_⟩) hHeld ?_
  rotate_left
  · intro w' hSw
    (try dsimp only at hSw)
    simp only [List.getElem_toArray, List.getElem_cons_zero, List.getElem_cons_succ]
    go_simp
    all_goals (try with_reducible rfl)
  try simp only [Act.put, List.setIfInBounds_toArray, List.set_cons_zero, List.set_cons_succ, List.getElem_toArray, List.getElem_cons_zero, List.getElem_cons_succ]
  clear E1
  refine wpAnyH_take (i := 9) (v := ?_) (by rfl) (by kernel_rfl) (by kernel_rfl) (by kernel_rfl) (fun _ _ _ h => h) (Or.inl ⟨by rfl, ?_⟩) hHeld ?_
  rotate_left
  · intro w' hSw
    (try dsimp only at hSw)
    simp only [List.getElem_toArray, List.getElem_cons_zero, List.getElem_cons_succ]
    go_simp
    all_goals (try with_reducible rfl)
  try simp only [Act.put, List.setIfInBounds_toArray, List.set_cons_zero, List.set_cons_succ, List.getElem_toArray, List.getElem_cons_zero, List.getElem_cons_succ]
  refine wpAnyH_take (i := 10) (v := ?_) (by rfl) (by kernel_rfl) (by kernel_rfl) (by kernel_rfl) (fun _ _ _ h => h) (Or.inl ⟨by rfl, ?_⟩) hHeld ?_
  rotate_left
  · intro w' hSw
    (try dsimp only at hSw)
    simp only [List.getElem_toArray, List.getElem_cons_zero, List.getElem_cons_succ]
    go_simp
    all_goals (try with_reducible rfl)
  try simp only [Act.put, List.setIfInBounds_toArray, List.set_cons_zero, List.set_cons_succ, List.getElem_toArray, List.getElem_cons_zero, List.getElem_cons_succ]
  refine wpAnyH_take (i := 11) (v := ?_) (by rfl) (by kernel_rfl) (by kernel_rfl) (by kernel_rfl) (fun _ _ _ h => h) (Or.inl ⟨by rfl, ?_⟩) hHeld ?_
  rotate_left
  · intro w' hSw
    (try dsimp only at hSw)
    simp only [List.getElem_toArray, List.getElem_cons_zero, List.getElem_cons_succ]
    go_simp
    all_goals (try with_reducible rfl)
  try simp only [Act.put, List.setIfInBounds_toArray, List.set_cons_zero, List.set_cons_succ, List.getElem_toArray, List.getElem_cons_zero, List.getElem_cons_succ]
  refine wpAnyH_ready (rs := [12]) (by kernel_rfl) (by simp) ?_
  refine AllReadyH.cons (by rfl) (fun K hK => ?_) AllReadyH.nil
  simp only [List.getElem_toArray, List.getElem_cons_zero, List.getElem_cons_succ]
  go_simp
  refine (lives_true _ M.out.knw).mono ?_
  rintro e w16 ⟨rfl, q⟩
  have M := veil (M.out.keep q)
  clear q
  (try dsimp only)
  refine hK.out _ _ M.out.rng (fun hHeld => ?_)
  clear hK K
  try simp only [Act.put, List.setIfInBounds_toArray, List.set_cons_zero, List.set_cons_succ, List.getElem_toArray, List.getElem_cons_zero, List.getElem_cons_succ]
  refine wpAnyH_take (i := 13) (v := ?_) (by rfl) (by kernel_rfl) (by kernel_rfl) (by kernel_rfl) (fun _ _ _ h => h) (Or.inl ⟨by rfl, ?_⟩) hHeld ?_
  rotate_left
  · intro w' hSw
    (try dsimp only at hSw)
    simp only [List.getElem_toArray, List.getElem_cons_zero, List.getElem_cons_succ]
    go_simp
    all_goals (try with_reducible rfl)
  try simp only [Act.put, List.setIfInBounds_toArray, List.set_cons_zero, List.set_cons_succ, List.getElem_toArray, List.getElem_cons_zero, List.getElem_cons_succ]
  refine wpAnyH_take (i := 14) (v := ?_) (by rfl) (by kernel_rfl) (by kernel_rfl) (by kernel_rfl) (fun _ _ _ h => h) (Or.inl ⟨by rfl, ?_⟩) hHeld ?_
  rotate_left
  · intro w' hSw
    (try dsimp only at hSw)
    simp only [List.getElem_toArray, List.getElem_cons_zero, List.getElem_cons_succ]
    go_simp
    all_goals (try with_reducible rfl)
  try simp only [Act.put, List.setIfInBounds_toArray, List.set_cons_zero, List.set_cons_succ, List.getElem_toArray, List.getElem_cons_zero, List.getElem_cons_succ]
  refine wpAnyH_done (by kernel_rfl) ?_ _
  refine NoPanic.normal ?_
  clear hHeld
  go_wp2_with fail
  go_ret
  exact ⟨rfl, M.out.below⟩

set_option linter.unusedSimpArgs false in
set_option maxHeartbeats 8000000 in
theorem walkTF (t d s : List Int) (w : World) (ht : Ok t) (hd : Ok d) (hs : Ok s) (hk : Knw w) (hm : mult t = false) (hz : decide (d = sol t) = true) (hn : nob s = false) :
    Calls Tryd.prog 6 #[av t, av d, av s] w fun e w' => e = .returned (.bool true) ∧ Below w.heap.size w w' := by
  obtain ⟨ZP, hZP⟩ : ∃ Z : Array Value, Z = #[.int .u8 0, .int .u8 0, .int .u8 0, .int .u8 0, .int .u8 0, .int .u8 0, .int .u8 0, .int .u8 0, .int .u8 0, .int .u8 0, .int .u8 0, .int .u8 0, .int .u8 0, .int .u8 0, .int .u8 0, .int .u8 0, .int .u8 0, .int .u8 0, .int .u8 0, .int .u8 0, .int .u8 0, .int .u8 0, .int .u8 0, .int .u8 0, .int .u8 0, .int .u8 0, .int .u8 0, .int .u8 0, .int .u8 0, .int .u8 0, .int .u8 0, .int .u8 0, .int .u8 0, .bool false, .bool false, .int .u32 0, .int .u16 0, .bool false, .int .u8 0, .slice none 0 0] := ⟨_, rfl⟩
  obtain ⟨ZM, hZM⟩ : ∃ Z : Array Value, Z = #[.int .u8 0, .int .u8 0, .int .u32 0, .slice none 0 0, .int .u8 0, .int .u8 0, .int .u16 0, .int .u32 0, .int .u32 0, .int .u8 0, .int .u8 0, .int .u8 0, .int .u8 0, .int .u8 0, .int .u8 0, .int .u8 0, .int .u8 0, .int .u8 0, .int .u8 0, .int .u8 0, .int .u8 0, .int .u8 0, .int .u8 0, .int .u8 0, .int .u8 0, .int .u8 0, .int .u8 0, .int .u8 0, .int .u8 0, .int .u8 0, .int .u8 0, .int .u8 0, .int .u8 0, .int .u8 0, .int .u8 0, .int .u8 0, .int .u8 0, .int .u8 0, .int .u8 0, .int .u8 0, .int .u8 0, .slice none 0 0, .int .u16 0, .int .u8 0, .int .u8 0, .int .u8 0, .int .u8 0, .int .u8 0, .int .u8 0, .int .u8 0, .int .u8 0, .int .u8 0, .int .u8 0, .int .u8 0, .int .u8 0, .int .u8 0, .int .u8 0, .int .u8 0, .int .u8 0, .int .u8 0, .int .u8 0, .slice none 0 0, .slice none 0 0] := ⟨_, rfl⟩
  have sP : ZP.size = 40 := by rw [hZP]; rfl
  have sM : ZM.size = 63 := by rw [hZM]; rfl
  have M0 := (((Kw.begin hk).new (bv t) 23 (g := w.heap.size) rfl).new (bv d) 23 (g := w.heap.size + 1) (by simp)).new (bv s) 23 (g := w.heap.size + 1 + 1) (by simp)
  obtain ⟨wb, hwb⟩ : ∃ x, ((w.alloc (.cells (bv t).toArray 23)).alloc (.cells (bv d).toArray 23)).alloc (.cells (bv s).toArray 23) = x := ⟨_, rfl⟩
  rw [hwb] at M0
  have L1 := M0.lay.load (P := Tryd.prog) mem1 (part_all _) Tryd.underlying23 rfl (sizeAddr hd.len)
  obtain ⟨w1, S1, M1⟩ := M0.fresh (P := Tryd.prog) ZP 30 (pc (k0 d) nilV) (by rw [sP, pc_len (k0_ends hd.len)]) (sizePkt (k0_ends hd.len)) (pc_one rfl)
  have szb : wb.heap.size = w.heap.size + 1 + 1 + 1 := by rw [← hwb]; simp
  rw [szb] at S1 M1
  clear szb
  have L2 := M1.lay.load (P := Tryd.prog) mem3 (part_all _) Tryd.underlying23 rfl (sizeAddr ht.len)
  obtain ⟨w2, S2, M2⟩ := M1.fresh (P := Tryd.prog) ZM 35 (mc (m0 t)) (by rw [sM, mc_len (m0_fine ht.len)]) (sizeMsg (m0_fine ht.len)) (mc_one (m0_fine ht.len))
  have L3 := M2.lay.load (P := Tryd.prog) mem4 (part_all _) Tryd.underlying23 rfl (sizeAddr ht.len)
  have VS1 := veil S1
  have VS2 := veil S2
  have VL1 := veil L1
  have VL2 := veil L2
  have VL3 := veil L3
  have M := veil M2
  have HT := veil ht
  have HD := veil hd
  have HS := veil hs
  have HMU := veil hm
  have SO := veil (sol_ok ht)
  have C0 : ∀ u, Knw u → Calls Tryd.prog 11 #[pv (k0 d) nilV, mv (m0 t)] u fun e w' => e = .returned (.bool true) ∧ Below u.heap.size u w' := fun u hu => call0 _ hd ht hu (by rw [hm, hz]; rfl)
  have E0 : ∀ u, (binOp .eql 23 (av d) (av (sol t))).run Tryd.prog u = .ok (.bool true) u := fun u => by rw [eql_any u hd.len (sol_ok ht).len hz]
  have E1 : ∀ u, (binOp .neq 23 (av s) (av (kn 0))).run Tryd.prog u = .ok (.bool true) u := fun u => by rw [neq_any u hs.len (kn_len (by omega)) hn]; rfl
  have C1 : ∀ u, Knw u → Calls Tryd.prog 11 #[pv (k0 (sol t)) nilV, mv (m0 t)] u fun e w' => e = .returned (.bool true) ∧ Below u.heap.size u w' := fun u hu => call0 _ (sol_ok ht) ht hu (by rw [hm]; simp)
  have C3 : ∀ u g, Knw u → Op1 u (.slice (some ⟨g, 0, none⟩) 2 2) two → Calls Tryd.prog 11 #[pv (k2 s d) nilV, mv (m1 t (.slice (some ⟨g, 0, none⟩) 2 2))] u fun e w' => e = .returned (.bool true) ∧ Below u.heap.size u w' := fun u g hu ho => call2 _ g hs hd ht hu ho (by rw [hm, hn]; rfl)
  have VC0 := veil C0
  have VC1 := veil C1
  have VC3 := veil C3
  have VE0 := veil E0
  have VE1 := veil E1
  clear E0 E1 hz hn
  clear M0 M1 M2 S1 S2 L1 L2 L3 sP sM ht hd hs hk hm C0 C1 C3
  subst hwb hZP hZM
  go_enter Tryd.func6, Tryd.ntmps6
  go_wp2_with (first
    | (refine wpList_load_of rfl (.tmp 4) rfl rfl VL1.out ?_; (try simp only [Act.put, List.setIfInBounds_toArray, List.set_cons_zero, List.set_cons_succ]))
    | (refine wpList_build_of rfl 30 #[(1, .tmp 10), (2, .const (.int .u8 255))] rfl #[(1, av d), (2, .int .u8 255)] (by simp [Act.eval]) (made_dst HD.out.len 255 _) ?_; (try simp only [Act.put, List.setIfInBounds_toArray, List.set_cons_zero, List.set_cons_succ]))
    | (refine wpList_store_of rfl (.tmp 7) (.tmp 11) rfl rfl rfl VS1.out ?_; (try simp only [Act.put, List.setIfInBounds_toArray, List.set_cons_zero, List.set_cons_succ]))
    | (refine wpList_load_of rfl (.tmp 3) rfl rfl VL2.out ?_; (try simp only [Act.put, List.setIfInBounds_toArray, List.set_cons_zero, List.set_cons_succ]))
    | (refine wpList_build_of rfl 35 #[(0, .const (.int .u8 135)), (9, .tmp 12)] rfl #[(0, .int .u8 135), (9, av t)] (by simp [Act.eval]) (made_target HT.out.len 135 _) ?_; (try simp only [Act.put, List.setIfInBounds_toArray, List.set_cons_zero, List.set_cons_succ]))
    | (refine wpList_store_of rfl (.tmp 8) (.tmp 13) rfl rfl rfl VS2.out ?_; (try simp only [Act.put, List.setIfInBounds_toArray, List.set_cons_zero, List.set_cons_succ]))
    | (refine wpList_load_of rfl (.tmp 3) rfl rfl VL3.out ?_; (try simp only [Act.put, List.setIfInBounds_toArray, List.set_cons_zero, List.set_cons_succ])))
  refine (isMulticast_any t _ HT.out).mono ?_
  rintro e w3 ⟨rfl, q⟩
  have M := veil (M.out.keep q)
  clear q VS1 VS2 VL1 VL2 VL3
  rw [HMU.out]
  generalize ((w.alloc (.cells (bv t).toArray 23)).alloc (.cells (bv d).toArray 23)).alloc (.cells (bv s).toArray 23) = wb at *
  generalize w.heap.size + 1 + 1 + 1 = gp at *
  generalize w1.heap.size = gm at *
  go_wp2_with fail
  have M := veil M.out.drew
  have ip := veil (sizePkt (v := nilV) (k0_ends HD.out.len))
  have im := veil (sizeMsg (m0_fine HT.out.len))
  have id := veil (sizeAddr HD.out.len)
  have it := veil (sizeAddr HT.out.len)
  refine wp_region_noPanic ?_
  refine wp_region_held_drew (S := (fun w' => ∀ x ∈ [(gm, (35, mc (m0 t))), (gp, (30, pc (k0 d) nilV)), (w.heap.size + 1 + 1, (23, bv s)), (w.heap.size + 1, (23, bv d)), (w.heap.size, (23, bv t))], w'.rangeAt x.1 0 x.2.2)) (by kernel_rfl) M.out.rng (fun hHeld => ?_)
  refine wpAnyH_take (i := 0) (v := _) (by rfl) (by kernel_rfl) (by kernel_rfl) (by kernel_rfl) (fun _ _ _ h => h) (yieldsIf_load_mid (by rfl) _ _ (by rfl) _ _ rfl (pc (k0 d) nilV) _ (fun _ h => h _ (List.mem_cons_of_mem _ List.mem_cons_self)) Tryd.underlying30 rfl ip.out) hHeld ?_
  try simp only [Act.put, List.setIfInBounds_toArray, List.set_cons_zero, List.set_cons_succ, List.getElem_toArray, List.getElem_cons_zero, List.getElem_cons_succ]
  refine wpAnyH_take (i := 1) (v := _) (by rfl) (by kernel_rfl) (by kernel_rfl) (by kernel_rfl) (fun _ _ _ h => h) (yieldsIf_load_mid (by rfl) _ _ (by rfl) _ _ rfl (mc (m0 t)) _ (fun _ h => h _ List.mem_cons_self) Tryd.underlying35 rfl im.out) hHeld ?_
  try simp only [Act.put, List.setIfInBounds_toArray, List.set_cons_zero, List.set_cons_succ, List.getElem_toArray, List.getElem_cons_zero, List.getElem_cons_succ]
  refine wpAnyH_take (i := 3) (v := ?_) (by rfl) (by kernel_rfl) (by kernel_rfl) (by kernel_rfl) (fun _ _ _ h => h) (Or.inl ⟨by rfl, ?_⟩) hHeld ?_
  rotate_left
  · intro w' hSw
    (try dsimp only at hSw)
    simp only [List.getElem_toArray, List.getElem_cons_zero, List.getElem_cons_succ]
    go_simp
    all_goals (try with_reducible rfl)
  try simp only [Act.put, List.setIfInBounds_toArray, List.set_cons_zero, List.set_cons_succ, List.getElem_toArray, List.getElem_cons_zero, List.getElem_cons_succ]
  refine wpAnyH_take (i := 4) (v := ?_) (by rfl) (by kernel_rfl) (by kernel_rfl) (by kernel_rfl) (fun _ _ _ h => h) (Or.inl ⟨by rfl, ?_⟩) hHeld ?_
  rotate_left
  · intro w' hSw
    (try dsimp only at hSw)
    simp only [List.getElem_toArray, List.getElem_cons_zero, List.getElem_cons_succ]
    go_simp
    all_goals (try with_reducible rfl)
  try simp only [Act.put, List.setIfInBounds_toArray, List.set_cons_zero, List.set_cons_succ, List.getElem_toArray, List.getElem_cons_zero, List.getElem_cons_succ]
  refine wpAnyH_ready (rs := [2]) (by kernel_rfl) (by simp) ?_
  refine AllReadyH.cons (by rfl) (fun K hK => ?_) AllReadyH.nil
  simp only [List.getElem_toArray, List.getElem_cons_zero, List.getElem_cons_succ]
  go_simp
  refine (VC0.out _ M.out.knw).mono ?_
  rintro e w4 ⟨rfl, q⟩
  have M := veil (M.out.keep q)
  clear q
  (try dsimp only)
  refine hK.out _ _ M.out.rng (fun hHeld => ?_)
  clear hK K
  try simp only [Act.put, List.setIfInBounds_toArray, List.set_cons_zero, List.set_cons_succ, List.getElem_toArray, List.getElem_cons_zero, List.getElem_cons_succ]
  refine wpAnyH_take (i := 5) (v := ?_) (by rfl) (by kernel_rfl) (by kernel_rfl) (by kernel_rfl) (fun _ _ _ h => h) (Or.inl ⟨by rfl, ?_⟩) hHeld ?_
  rotate_left
  · intro w' hSw
    (try dsimp only at hSw)
    simp only [List.getElem_toArray, List.getElem_cons_zero, List.getElem_cons_succ]
    go_simp
    all_goals (try with_reducible rfl)
  try simp only [Act.put, List.setIfInBounds_toArray, List.set_cons_zero, List.set_cons_succ, List.getElem_toArray, List.getElem_cons_zero, List.getElem_cons_succ]
  refine wpAnyH_take (i := 6) (v := _) (by rfl) (by kernel_rfl) (by kernel_rfl) (by kernel_rfl) (fun _ _ _ h => h) (yieldsIf_load_mid (by rfl) _ _ (by rfl) _ _ rfl (bv d) _ (fun _ h => h _ (List.mem_cons_of_mem _ (List.mem_cons_of_mem _ (List.mem_cons_of_mem _ List.mem_cons_self)))) Tryd.underlying23 rfl id.out) hHeld ?_
  try simp only [Act.put, List.setIfInBounds_toArray, List.set_cons_zero, List.set_cons_succ, List.getElem_toArray, List.getElem_cons_zero, List.getElem_cons_succ]
  refine wpAnyH_take (i := 7) (v := _) (by rfl) (by kernel_rfl) (by kernel_rfl) (by kernel_rfl) (fun _ _ _ h => h) (yieldsIf_load_mid (by rfl) _ _ (by rfl) _ _ rfl (bv t) _ (fun _ h => h _ (List.mem_cons_of_mem _ (List.mem_cons_of_mem _ (List.mem_cons_of_mem _ (List.mem_cons_of_mem _ List.mem_cons_self))))) Tryd.underlying23 rfl it.out) hHeld ?_
  try simp only [Act.put, List.setIfInBounds_toArray, List.set_cons_zero, List.set_cons_succ, List.getElem_toArray, List.getElem_cons_zero, List.getElem_cons_succ]
  refine wpAnyH_ready (rs := [8]) (by kernel_rfl) (by simp) ?_
  refine AllReadyH.cons (by rfl) (fun K hK => ?_) AllReadyH.nil
  simp only [List.getElem_toArray, List.getElem_cons_zero, List.getElem_cons_succ]
  go_simp
  refine (solicited_any t _ HT.out).mono ?_
  rintro e w5 ⟨rfl, q⟩
  have M := veil (M.out.keep q)
  clear q
  have E0 := VE0.out
  (try dsimp only)
  refine hK.out _ _ M.out.rng (fun hHeld => ?_)
  clear hK K
  try simp only [Act.put, List.setIfInBounds_toArray, List.set_cons_zero, List.set_cons_succ, List.getElem_toArray, List.getElem_cons_zero, List.getElem_cons_succ]
  refine wpAnyH_take (i := 9) (v := ?_) (by rfl) (by kernel_rfl) (by kernel_rfl) (by kernel_rfl) (fun _ _ _ h => h) (Or.inl ⟨by rfl, ?_⟩) hHeld ?_
  rotate_left
  · intro w' hSw
    (try dsimp only at hSw)
    simp only [List.getElem_toArray, List.getElem_cons_zero, List.getElem_cons_succ]
    go_simp
    all_goals (try with_reducible rfl)
  try simp only [Act.put, List.setIfInBounds_toArray, List.set_cons_zero, List.set_cons_succ, List.getElem_toArray, List.getElem_cons_zero, List.getElem_cons_succ]
  clear E0
  refine wpAnyH_take (i := 10) (v := ?_) (by rfl) (by kernel_rfl) (by kernel_rfl) (by kernel_rfl) (fun _ _ _ h => h) (Or.inl ⟨by rfl, ?_⟩) hHeld ?_
  rotate_left
  · intro w' hSw
    (try dsimp only at hSw)
    simp only [List.getElem_toArray, List.getElem_cons_zero, List.getElem_cons_succ]
    go_simp
    all_goals (try with_reducible rfl)
  try simp only [Act.put, List.setIfInBounds_toArray, List.set_cons_zero, List.set_cons_succ, List.getElem_toArray, List.getElem_cons_zero, List.getElem_cons_succ]
  refine wpAnyH_take (i := 11) (v := ?_) (by rfl) (by kernel_rfl) (by kernel_rfl) (by kernel_rfl) (fun _ _ _ h => h) (Or.inl ⟨by rfl, ?_⟩) hHeld ?_
  rotate_left
  · intro w' hSw
    (try dsimp only at hSw)
    simp only [List.getElem_toArray, List.getElem_cons_zero, List.getElem_cons_succ]
    go_simp
    all_goals (try with_reducible rfl)
  try simp only [Act.put, List.setIfInBounds_toArray, List.set_cons_zero, List.set_cons_succ, List.getElem_toArray, List.getElem_cons_zero, List.getElem_cons_succ]
  refine wpAnyH_done (by kernel_rfl) ?_ _
  refine NoPanic.normal ?_
  clear hHeld
  clear ip im id
  go_wp2_with (refine wpList_load_of rfl (.tmp 3) rfl rfl (M.out.lay.load (List.mem_cons_of_mem _ (List.mem_cons_of_mem _ (List.mem_cons_of_mem _ (List.mem_cons_of_mem _ List.mem_cons_self)))) (part_all _) Tryd.underlying23 rfl it.out) ?_; (try simp only [Act.put, List.setIfInBounds_toArray, List.set_cons_zero, List.set_cons_succ]))
  refine (solicited_any t _ HT.out).mono ?_
  rintro e w6 ⟨rfl, q⟩
  obtain ⟨w7, S7, M7⟩ := (M.out.keep q).part (P := Tryd.prog) 1 rfl 16 (bv (sol t)) 23 (cs' := pc (k0 (sol t)) nilV) (by rw [pc_len (k0_ends HD.out.len), bv_length, SO.out.len]; omega) (sizeAddr SO.out.len) (fun _ h => bv_byte h) (pc_putd (k0_ends HD.out.len) SO.out.len)
  simp only [List.set_cons_zero, List.set_cons_succ] at M7
  have VS7 := veil S7
  have M := veil M7
  clear q S7 M7
  go_wp2_with (first
    | (refine wpList_store_of rfl (.tmp 30) (.tmp 29) rfl rfl rfl VS7.out ?_; (try simp only [Act.put, List.setIfInBounds_toArray, List.set_cons_zero, List.set_cons_succ]))
    | (refine wpList_load_of rfl (.tmp 7) rfl rfl (pktAt M.out.lay mem1 (k0_ends SO.out.len)).all ?_; (try simp only [Act.put, List.setIfInBounds_toArray, List.set_cons_zero, List.set_cons_succ]))
    | (refine wpList_load_of rfl (.tmp 8) rfl rfl (msgAt M.out.lay mem0 (m0_fine HT.out.len)).all ?_; (try simp only [Act.put, List.setIfInBounds_toArray, List.set_cons_zero, List.set_cons_succ])))
  refine (VC1.out _ M.out.knw).mono ?_
  rintro e w8 ⟨rfl, q⟩
  have M8 := M.out.keep q
  have M9 := M8.new (cv [⟨14, none, 0, 0⟩, ⟨1, none, 0, 0⟩]) 46 (g := w8.heap.size) rfl
  obtain ⟨w10, S10, M10⟩ := M9.single (P := Tryd.prog) 1 rfl 41 (.slice (some ⟨w8.heap.size, 0, none⟩) 2 2) 31 (cs' := mc (m1 t (.slice (some ⟨w8.heap.size, 0, none⟩) 2 2))) (by rw [mc_len (m0_fine HT.out.len)]; omega) size_opts rfl rfl (mc_opts (m0_fine HT.out.len) _)
  simp only [List.set_cons_zero, List.set_cons_succ] at M10
  have VS10 := veil S10
  have M := veil M10
  clear q M8 M9 S10 M10 VS7
  go_wp2_with (first
    | (refine wpList_build_of rfl 46 #[(0, .const (.int .u8 14))] rfl #[(0, .int .u8 14)] (by simp [Act.eval]) (made_opt 14 _) ?_; (try simp only [Act.put, List.setIfInBounds_toArray, List.set_cons_zero, List.set_cons_succ]))
    | (refine wpList_build_of rfl 46 #[(0, .const (.int .u8 1))] rfl #[(0, .int .u8 1)] (by simp [Act.eval]) (made_opt 1 _) ?_; (try simp only [Act.put, List.setIfInBounds_toArray, List.set_cons_zero, List.set_cons_succ]))
    | (refine Ad.slice_at (some 38) rfl rfl 31 2 #[(0, .tmp 36), (1, .tmp 37)] rfl #[(0, ov ⟨14, none, 0, 0⟩), (1, ov ⟨1, none, 0, 0⟩)] (by simp [Act.eval]) (made_two 14 1 _) ?_; (try simp only [Act.put, List.setIfInBounds_toArray, List.set_cons_zero, List.set_cons_succ]))
    | (refine wpList_store_of rfl (.tmp 39) (.tmp 38) rfl rfl rfl VS10.out ?_; (try simp only [Act.put, List.setIfInBounds_toArray, List.set_cons_zero, List.set_cons_succ]))
    | (refine wpList_load_of rfl (.tmp 7) rfl rfl (pktAt M.out.lay mem2 (k0_ends SO.out.len)).all ?_; (try simp only [Act.put, List.setIfInBounds_toArray, List.set_cons_zero, List.set_cons_succ]))
    | (refine wpList_load_of rfl (.tmp 8) rfl rfl (msgAt M.out.lay mem1 (m1_fine HT.out.len _)).all ?_; (try simp only [Act.put, List.setIfInBounds_toArray, List.set_cons_zero, List.set_cons_succ])))
  generalize w8.heap.size = go at *
  refine (call1 go SO.out HT.out M.out.knw (op1_bare (ks := [14, 1]) M.out.lay mem0 rfl (by omega))).mono ?_
  rintro e w11 ⟨rfl, q⟩
  have M11 := M.out.keep q
  obtain ⟨w12, S12, M12⟩ := M11.part (P := Tryd.prog) 2 rfl 0 (bv s) 23 (cs' := pc (k2 s (sol t)) nilV) (by rw [pc_len (k0_ends SO.out.len), bv_length, HS.out.len]; omega) (sizeAddr HS.out.len) (fun _ h => bv_byte h) (pc_puts rfl HS.out.len)
  simp only [List.set_cons_zero, List.set_cons_succ] at M12
  obtain ⟨w13, S13, M13⟩ := M12.part (P := Tryd.prog) 2 rfl 16 (bv d) 23 (cs' := pc (k2 s d) nilV) (by rw [pc_len (k2_ends HS.out.len SO.out.len), bv_length, HD.out.len]; omega) (sizeAddr HD.out.len) (fun _ h => bv_byte h) (pc_putd (k2_ends HS.out.len SO.out.len) HD.out.len)
  simp only [List.set_cons_zero, List.set_cons_succ] at M13
  have VL12 := veil (M11.lay.load (P := Tryd.prog) (List.mem_cons_of_mem _ (List.mem_cons_of_mem _ (List.mem_cons_of_mem _ List.mem_cons_self))) (part_all _) Tryd.underlying23 rfl (sizeAddr HS.out.len))
  have VL13 := veil (M12.lay.load (P := Tryd.prog) (List.mem_cons_of_mem _ (List.mem_cons_of_mem _ (List.mem_cons_of_mem _ (List.mem_cons_of_mem _ List.mem_cons_self)))) (part_all _) Tryd.underlying23 rfl (sizeAddr HD.out.len))
  have VS12 := veil S12
  have VS13 := veil S13
  have M := veil M13
  clear q M11 M12 M13 S12 S13 VS10
  go_wp2_with (first
    | (refine wpList_load_of rfl (.tmp 5) rfl rfl VL12.out ?_; (try simp only [Act.put, List.setIfInBounds_toArray, List.set_cons_zero, List.set_cons_succ]))
    | (refine wpList_store_of rfl (.tmp 44) (.tmp 43) rfl rfl rfl VS12.out ?_; (try simp only [Act.put, List.setIfInBounds_toArray, List.set_cons_zero, List.set_cons_succ]))
    | (refine wpList_load_of rfl (.tmp 4) rfl rfl VL13.out ?_; (try simp only [Act.put, List.setIfInBounds_toArray, List.set_cons_zero, List.set_cons_succ]))
    | (refine wpList_store_of rfl (.tmp 46) (.tmp 45) rfl rfl rfl VS13.out ?_; (try simp only [Act.put, List.setIfInBounds_toArray, List.set_cons_zero, List.set_cons_succ])))
  clear VL12 VL13 VS12 VS13 it
  have M := veil M.out.drew
  have ip := veil (sizePkt (v := nilV) (k2_ends HS.out.len HD.out.len))
  have im := veil (sizeMsg (m1_fine HT.out.len go))
  have is := veil (sizeAddr HS.out.len)
  refine wp_region_noPanic ?_
  refine wp_region_held_drew (S := (fun w' => ∀ x ∈ [(go, (46, cv [⟨14, none, 0, 0⟩, ⟨1, none, 0, 0⟩])), (gm, (35, mc (m1 t (.slice (some ⟨go, 0, none⟩) 2 2)))), (gp, (30, pc (k2 s d) nilV)), (w.heap.size + 1 + 1, (23, bv s)), (w.heap.size + 1, (23, bv d)), (w.heap.size, (23, bv t))], w'.rangeAt x.1 0 x.2.2)) (by kernel_rfl) M.out.rng (fun hHeld => ?_)
  refine wpAnyH_take (i := 0) (v := _) (by rfl) (by kernel_rfl) (by kernel_rfl) (by kernel_rfl) (fun _ _ _ h => h) (yieldsIf_load_mid (by rfl) _ _ (by rfl) _ _ rfl (pc (k2 s d) nilV) _ (fun _ h => h _ (List.mem_cons_of_mem _ (List.mem_cons_of_mem _ List.mem_cons_self))) Tryd.underlying30 rfl ip.out) hHeld ?_
  try simp only [Act.put, List.setIfInBounds_toArray, List.set_cons_zero, List.set_cons_succ, List.getElem_toArray, List.getElem_cons_zero, List.getElem_cons_succ]
  refine wpAnyH_take (i := 1) (v := _) (by rfl) (by kernel_rfl) (by kernel_rfl) (by kernel_rfl) (fun _ _ _ h => h) (yieldsIf_load_mid (by rfl) _ _ (by rfl) _ _ rfl (mc (m1 t (.slice (some ⟨go, 0, none⟩) 2 2))) _ (fun _ h => h _ (List.mem_cons_of_mem _ List.mem_cons_self)) Tryd.underlying35 rfl im.out) hHeld ?_
  try simp only [Act.put, List.setIfInBounds_toArray, List.set_cons_zero, List.set_cons_succ, List.getElem_toArray, List.getElem_cons_zero, List.getElem_cons_succ]
  refine wpAnyH_take (i := 3) (v := ?_) (by rfl) (by kernel_rfl) (by kernel_rfl) (by kernel_rfl) (fun _ _ _ h => h) (Or.inl ⟨by rfl, ?_⟩) hHeld ?_
  rotate_left
  · intro w' hSw
    (try dsimp only at hSw)
    simp only [List.getElem_toArray, List.getElem_cons_zero, List.getElem_cons_succ]
    go_simp
    all_goals (try with_reducible rfl)
  try simp only [Act.put, List.setIfInBounds_toArray, List.set_cons_zero, List.set_cons_succ, List.getElem_toArray, List.getElem_cons_zero, List.getElem_cons_succ]
  refine wpAnyH_take (i := 4) (v := ?_) (by rfl) (by kernel_rfl) (by kernel_rfl) (by kernel_rfl) (fun _ _ _ h => h) (Or.inl ⟨by rfl, ?_⟩) hHeld ?_
  rotate_left
  · intro w' hSw
    (try dsimp only at hSw)
    simp only [List.getElem_toArray, List.getElem_cons_zero, List.getElem_cons_succ]
    go_simp
    all_goals (try with_reducible rfl)
  try simp only [Act.put, List.setIfInBounds_toArray, List.set_cons_zero, List.set_cons_succ, List.getElem_toArray, List.getElem_cons_zero, List.getElem_cons_succ]
  refine wpAnyH_ready (rs := [2]) (by kernel_rfl) (by simp) ?_
  refine AllReadyH.cons (by rfl) (fun K hK => ?_) AllReadyH.nil
  simp only [List.getElem_toArray, List.getElem_cons_zero, List.getElem_cons_succ]
  go_simp
  refine (VC3.out _ go M.out.knw (op1_bare (ks := [14, 1]) M.out.lay mem0 rfl (by omega))).mono ?_
  rintro e w14 ⟨rfl, q⟩
  have M := veil (M.out.keep q)
  clear q
  (try dsimp only)
  refine hK.out _ _ M.out.rng (fun hHeld => ?_)
  clear hK K
  try simp only [Act.put, List.setIfInBounds_toArray, List.set_cons_zero, List.set_cons_succ, List.getElem_toArray, List.getElem_cons_zero, List.getElem_cons_succ]
  refine wpAnyH_take (i := 5) (v := ?_) (by rfl) (by kernel_rfl) (by kernel_rfl) (by kernel_rfl) (fun _ _ _ h => h) (Or.inl ⟨by rfl, ?_⟩) hHeld ?_
  rotate_left
  · intro w' hSw
    (try dsimp only at hSw)
    simp only [List.getElem_toArray, List.getElem_cons_zero, List.getElem_cons_succ]
    go_simp
    all_goals (try with_reducible rfl)
  try simp only [Act.put, List.setIfInBounds_toArray, List.set_cons_zero, List.set_cons_succ, List.getElem_toArray, List.getElem_cons_zero, List.getElem_cons_succ]
  refine wpAnyH_take (i := 6) (v := _) (by rfl) (by kernel_rfl) (by kernel_rfl) (by kernel_rfl) (fun _ _ _ h => h) (yieldsIf_load_mid (by rfl) _ _ (by rfl) _ _ rfl (bv s) _ (fun _ h => h _ (List.mem_cons_of_mem _ (List.mem_cons_of_mem _ (List.mem_cons_of_mem _ List.mem_cons_self)))) Tryd.underlying23 rfl is.out) hHeld ?_
  try simp only [Act.put, List.setIfInBounds_toArray, List.set_cons_zero, List.set_cons_succ, List.getElem_toArray, List.getElem_cons_zero, List.getElem_cons_succ]
  refine wpAnyH_ready (rs := [7]) (by kernel_rfl) (by simp) ?_
  refine AllReadyH.cons (by rfl) (fun K hK => ?_) AllReadyH.nil
  simp only [List.getElem_toArray, List.getElem_cons_zero, List.getElem_cons_succ]
  go_simp
  refine (unspecified_any _ M.out.knw).mono ?_
  rintro e w15 ⟨rfl, q⟩
  have M := veil (M.out.keep q)
  clear q
  have E1 := VE1.out
  (try dsimp only)
  refine hK.out _ _ M.out.rng (fun hHeld => ?_)
  clear hK K
  try simp only [Act.put, List.setIfInBounds_toArray, List.set_cons_zero, List.set_cons_succ, List.getElem_toArray, List.getElem_cons_zero, List.getElem_cons_succ]
  refine wpAnyH_take (i := 8) (v := ?_) (by rfl) (by kernel_rfl) (by kernel_rfl) (by kernel_rfl) (fun _ _ _ h => h) (Or.inl ⟨by rfl, ?_⟩) hHeld ?_
  rotate_left
  · intro w' hSw
    (try dsimp only at hSw)
    simp only [List.getElem_toArray, List.getElem_cons_zero, List.getElem_cons_succ]
    go_simp
    all_goals (try with_reducible rfl)
  try simp only [Act.put, List.setIfInBounds_toArray, List.set_cons_zero, List.set_cons_succ, List.getElem_toArray, List.getElem_cons_zero, List.getElem_cons_succ]
  clear E1
  refine wpAnyH_take (i := 9) (v := ?_) (by rfl) (by kernel_rfl) (by kernel_rfl) (by kernel_rfl) (fun _ _ _ h => h) (Or.inl ⟨by rfl, ?_⟩) hHeld ?_
  rotate_left
  · intro w' hSw
    (try dsimp only at hSw)
    simp only [List.getElem_toArray, List.getElem_cons_zero, List.getElem_cons_succ]
    go_simp
    all_goals (try with_reducible rfl)
  try simp only [Act.put, List.setIfInBounds_toArray, List.set_cons_zero, List.set_cons_succ, List.getElem_toArray, List.getElem_cons_zero, List.getElem_cons_succ]
  refine wpAnyH_take (i := 10) (v := ?_) (by rfl) (by kernel_rfl) (by kernel_rfl) (by kernel_rfl) (fun _ _ _ h => h) (Or.inl ⟨by rfl, ?_⟩) hHeld ?_
  rotate_left
  · intro w' hSw
    (try dsimp only at hSw)
    simp only [List.getElem_toArray, List.getElem_cons_zero, List.getElem_cons_succ]
    go_simp
    all_goals (try with_reducible rfl)
  try simp only [Act.put, List.setIfInBounds_toArray, List.set_cons_zero, List.set_cons_succ, List.getElem_toArray, List.getElem_cons_zero, List.getElem_cons_succ]
  refine wpAnyH_take (i := 11) (v := ?_) (by rfl) (by kernel_rfl) (by kernel_rfl) (by kernel_rfl) (fun _ _ _ h => h) (Or.inl ⟨by rfl, ?_⟩) hHeld ?_
  rotate_left
  · intro w' hSw
    (try dsimp only at hSw)
    simp only [List.getElem_toArray, List.getElem_cons_zero, List.getElem_cons_succ]
    go_simp
    all_goals (try with_reducible rfl)
  try simp only [Act.put, List.setIfInBounds_toArray, List.set_cons_zero, List.set_cons_succ, List.getElem_toArray, List.getElem_cons_zero, List.getElem_cons_succ]
  refine wpAnyH_ready (rs := [12]) (by kernel_rfl) (by simp) ?_
  refine AllReadyH.cons (by rfl) (fun K hK => ?_) AllReadyH.nil
  simp only [List.getElem_toArray, List.getElem_cons_zero, List.getElem_cons_succ]
  go_simp
  refine (lives_true _ M.out.knw).mono ?_
  rintro e w16 ⟨rfl, q⟩
  have M := veil (M.out.keep q)
  clear q
  (try dsimp only)
  refine hK.out _ _ M.out.rng (fun hHeld => ?_)
  clear hK K
  try simp only [Act.put, List.setIfInBounds_toArray, List.set_cons_zero, List.set_cons_succ, List.getElem_toArray, List.getElem_cons_zero, List.getElem_cons_succ]
  refine wpAnyH_take (i := 13) (v := ?_) (by rfl) (by kernel_rfl) (by kernel_rfl) (by kernel_rfl) (fun _ _ _ h => h) (Or.inl ⟨by rfl, ?_⟩) hHeld ?_
  rotate_left
  · intro w' hSw
    (try dsimp only at hSw)
    simp only [List.getElem_toArray, List.getElem_cons_zero, List.getElem_cons_succ]
    go_simp
    all_goals (try with_reducible rfl)
  try simp only [Act.put, List.setIfInBounds_toArray, List.set_cons_zero, List.set_cons_succ, List.getElem_toArray, List.getElem_cons_zero, List.getElem_cons_succ]
  refine wpAnyH_take (i := 14) (v := ?_) (by rfl) (by kernel_rfl) (by kernel_rfl) (by kernel_rfl) (fun _ _ _ h => h) (Or.inl ⟨by rfl, ?_⟩) hHeld ?_
  rotate_left
  · intro w' hSw
    (try dsimp only at hSw)
    simp only [List.getElem_toArray, List.getElem_cons_zero, List.getElem_cons_succ]
    go_simp
    all_goals (try with_reducible rfl)
  try simp only [Act.put, List.setIfInBounds_toArray, List.set_cons_zero, List.set_cons_succ, List.getElem_toArray, List.getElem_cons_zero, List.getElem_cons_succ]
  refine wpAnyH_done (by kernel_rfl) ?_ _
  refine NoPanic.normal ?_
  clear hHeld
  go_wp2_with fail
  go_ret
  exact ⟨rfl, M.out.below⟩

set_option linter.unusedSimpArgs false in
set_option maxHeartbeats 8000000 in
theorem walkFT (t d s : List Int) (w : World) (ht : Ok t) (hd : Ok d) (hs : Ok s) (hk : Knw w) (hm : mult t = false) (hz : decide (d = sol t) = false) (hn : nob s = true) :
    Calls Tryd.prog 6 #[av t, av d, av s] w fun e w' => e = .returned (.bool true) ∧ Below w.heap.size w w' := by
  obtain ⟨ZP, hZP⟩ : ∃ Z : Array Value, Z = #[.int .u8 0, .int .u8 0, .int .u8 0, .int .u8 0, .int .u8 0, .int .u8 0, .int .u8 0, .int .u8 0, .int .u8 0, .int .u8 0, .int .u8 0, .int .u8 0, .int .u8 0, .int .u8 0, .int .u8 0, .int .u8 0, .int .u8 0, .int .u8 0, .int .u8 0, .int .u8 0, .int .u8 0, .int .u8 0, .int .u8 0, .int .u8 0, .int .u8 0, .int .u8 0, .int .u8 0, .int .u8 0, .int .u8 0, .int .u8 0, .int .u8 0, .int .u8 0, .int .u8 0, .bool false, .bool false, .int .u32 0, .int .u16 0, .bool false, .int .u8 0, .slice none 0 0] := ⟨_, rfl⟩
  obtain ⟨ZM, hZM⟩ : ∃ Z : Array Value, Z = #[.int .u8 0, .int .u8 0, .int .u32 0, .slice none 0 0, .int .u8 0, .int .u8 0, .int .u16 0, .int .u32 0, .int .u32 0, .int .u8 0, .int .u8 0, .int .u8 0, .int .u8 0, .int .u8 0, .int .u8 0, .int .u8 0, .int .u8 0, .int .u8 0, .int .u8 0, .int .u8 0, .int .u8 0, .int .u8 0, .int .u8 0, .int .u8 0, .int .u8 0, .int .u8 0, .int .u8 0, .int .u8 0, .int .u8 0, .int .u8 0, .int .u8 0, .int .u8 0, .int .u8 0, .int .u8 0, .int .u8 0, .int .u8 0, .int .u8 0, .int .u8 0, .int .u8 0, .int .u8 0, .int .u8 0, .slice none 0 0, .int .u16 0, .int .u8 0, .int .u8 0, .int .u8 0, .int .u8 0, .int .u8 0, .int .u8 0, .int .u8 0, .int .u8 0, .int .u8 0, .int .u8 0, .int .u8 0, .int .u8 0, .int .u8 0, .int .u8 0, .int .u8 0, .int .u8 0, .int .u8 0, .int .u8 0, .slice none 0 0, .slice none 0 0] := ⟨_, rfl⟩
  have sP : ZP.size = 40 := by rw [hZP]; rfl
  have sM : ZM.size = 63 := by rw [hZM]; rfl
  have M0 := (((Kw.begin hk).new (bv t) 23 (g := w.heap.size) rfl).new (bv d) 23 (g := w.heap.size + 1) (by simp)).new (bv s) 23 (g := w.heap.size + 1 + 1) (by simp)
  obtain ⟨wb, hwb⟩ : ∃ x, ((w.alloc (.cells (bv t).toArray 23)).alloc (.cells (bv d).toArray 23)).alloc (.cells (bv s).toArray 23) = x := ⟨_, rfl⟩
  rw [hwb] at M0
  have L1 := M0.lay.load (P := Tryd.prog) mem1 (part_all _) Tryd.underlying23 rfl (sizeAddr hd.len)
  obtain ⟨w1, S1, M1⟩ := M0.fresh (P := Tryd.prog) ZP 30 (pc (k0 d) nilV) (by rw [sP, pc_len (k0_ends hd.len)]) (sizePkt (k0_ends hd.len)) (pc_one rfl)
  have szb : wb.heap.size = w.heap.size + 1 + 1 + 1 := by rw [← hwb]; simp
  rw [szb] at S1 M1
  clear szb
  have L2 := M1.lay.load (P := Tryd.prog) mem3 (part_all _) Tryd.underlying23 rfl (sizeAddr ht.len)
  obtain ⟨w2, S2, M2⟩ := M1.fresh (P := Tryd.prog) ZM 35 (mc (m0 t)) (by rw [sM, mc_len (m0_fine ht.len)]) (sizeMsg (m0_fine ht.len)) (mc_one (m0_fine ht.len))
  have L3 := M2.lay.load (P := Tryd.prog) mem4 (part_all _) Tryd.underlying23 rfl (sizeAddr ht.len)
  have VS1 := veil S1
  have VS2 := veil S2
  have VL1 := veil L1
  have VL2 := veil L2
  have VL3 := veil L3
  have M := veil M2
  have HT := veil ht
  have HD := veil hd
  have HS := veil hs
  have HMU := veil hm
  have SO := veil (sol_ok ht)
  have C0 : ∀ u, Knw u → Calls Tryd.prog 11 #[pv (k0 d) nilV, mv (m0 t)] u fun e w' => e = .returned (.bool false) ∧ Below u.heap.size u w' := fun u hu => call0 _ hd ht hu (by rw [hm, hz]; rfl)
  have E0 : ∀ u, (binOp .eql 23 (av d) (av (sol t))).run Tryd.prog u = .ok (.bool false) u := fun u => by rw [eql_any u hd.len (sol_ok ht).len hz]
  have E1 : ∀ u, (binOp .neq 23 (av s) (av (kn 0))).run Tryd.prog u = .ok (.bool false) u := fun u => by rw [neq_any u hs.len (kn_len (by omega)) hn]; rfl
  have C1 : ∀ u, Knw u → Calls Tryd.prog 11 #[pv (k0 (sol t)) nilV, mv (m0 t)] u fun e w' => e = .returned (.bool true) ∧ Below u.heap.size u w' := fun u hu => call0 _ (sol_ok ht) ht hu (by rw [hm]; simp)
  have C3 : ∀ u g, Knw u → Op1 u (.slice (some ⟨g, 0, none⟩) 2 2) two → Calls Tryd.prog 11 #[pv (k2 s d) nilV, mv (m1 t (.slice (some ⟨g, 0, none⟩) 2 2))] u fun e w' => e = .returned (.bool false) ∧ Below u.heap.size u w' := fun u g hu ho => call2 _ g hs hd ht hu ho (by rw [hm, hn]; rfl)
  have VC0 := veil C0
  have VC1 := veil C1
  have VC3 := veil C3
  have VE0 := veil E0
  have VE1 := veil E1
  clear E0 E1 hz hn
  clear M0 M1 M2 S1 S2 L1 L2 L3 sP sM ht hd hs hk hm C0 C1 C3
  subst hwb hZP hZM
  go_enter Tryd.func6, Tryd.ntmps6
  go_wp2_with (first
    | (refine wpList_load_of rfl (.tmp 4) rfl rfl VL1.out ?_; (try simp only [Act.put, List.setIfInBounds_toArray, List.set_cons_zero, List.set_cons_succ]))
    | (refine wpList_build_of rfl 30 #[(1, .tmp 10), (2, .const (.int .u8 255))] rfl #[(1, av d), (2, .int .u8 255)] (by simp [Act.eval]) (made_dst HD.out.len 255 _) ?_; (try simp only [Act.put, List.setIfInBounds_toArray, List.set_cons_zero, List.set_cons_succ]))
    | (refine wpList_store_of rfl (.tmp 7) (.tmp 11) rfl rfl rfl VS1.out ?_; (try simp only [Act.put, List.setIfInBounds_toArray, List.set_cons_zero, List.set_cons_succ]))
    | (refine wpList_load_of rfl (.tmp 3) rfl rfl VL2.out ?_; (try simp only [Act.put, List.setIfInBounds_toArray, List.set_cons_zero, List.set_cons_succ]))
    | (refine wpList_build_of rfl 35 #[(0, .const (.int .u8 135)), (9, .tmp 12)] rfl #[(0, .int .u8 135), (9, av t)] (by simp [Act.eval]) (made_target HT.out.len 135 _) ?_; (try simp only [Act.put, List.setIfInBounds_toArray, List.set_cons_zero, List.set_cons_succ]))
    | (refine wpList_store_of rfl (.tmp 8) (.tmp 13) rfl rfl rfl VS2.out ?_; (try simp only [Act.put, List.setIfInBounds_toArray, List.set_cons_zero, List.set_cons_succ]))
    | (refine wpList_load_of rfl (.tmp 3) rfl rfl VL3.out ?_; (try simp only [Act.put, List.setIfInBounds_toArray, List.set_cons_zero, List.set_cons_succ])))
  refine (isMulticast_any t _ HT.out).mono ?_
  rintro e w3 ⟨rfl, q⟩
  have M := veil (M.out.keep q)
  clear q VS1 VS2 VL1 VL2 VL3
  rw [HMU.out]
  generalize ((w.alloc (.cells (bv t).toArray 23)).alloc (.cells (bv d).toArray 23)).alloc (.cells (bv s).toArray 23) = wb at *
  generalize w.heap.size + 1 + 1 + 1 = gp at *
  generalize w1.heap.size = gm at *
  go_wp2_with fail
  have M := veil M.out.drew
  have ip := veil (sizePkt (v := nilV) (k0_ends HD.out.len))
  have im := veil (sizeMsg (m0_fine HT.out.len))
  have id := veil (sizeAddr HD.out.len)
  have it := veil (sizeAddr HT.out.len)
  refine wp_region_noPanic ?_
  refine wp_region_held_drew (S := (fun w' => ∀ x ∈ [(gm, (35, mc (m0 t))), (gp, (30, pc (k0 d) nilV)), (w.heap.size + 1 + 1, (23, bv s)), (w.heap.size + 1, (23, bv d)), (w.heap.size, (23, bv t))], w'.rangeAt x.1 0 x.2.2)) (by kernel_rfl) M.out.rng (fun hHeld => ?_)
  refine wpAnyH_take (i := 0) (v := _) (by rfl) (by kernel_rfl) (by kernel_rfl) (by kernel_rfl) (fun _ _ _ h => h) (yieldsIf_load_mid (by rfl) _ _ (by rfl) _ _ rfl (pc (k0 d) nilV) _ (fun _ h => h _ (List.mem_cons_of_mem _ List.mem_cons_self)) Tryd.underlying30 rfl ip.out) hHeld ?_
  try simp only [Act.put, List.setIfInBounds_toArray, List.set_cons_zero, List.set_cons_succ, List.getElem_toArray, List.getElem_cons_zero, List.getElem_cons_succ]
  refine wpAnyH_take (i := 1) (v := _) (by rfl) (by kernel_rfl) (by kernel_rfl) (by kernel_rfl) (fun _ _ _ h => h) (yieldsIf_load_mid (by rfl) _ _ (by rfl) _ _ rfl (mc (m0 t)) _ (fun _ h => h _ List.mem_cons_self) Tryd.underlying35 rfl im.out) hHeld ?_
  try simp only [Act.put, List.setIfInBounds_toArray, List.set_cons_zero, List.set_cons_succ, List.getElem_toArray, List.getElem_cons_zero, List.getElem_cons_succ]
  refine wpAnyH_take (i := 3) (v := ?_) (by rfl) (by kernel_rfl) (by kernel_rfl) (by kernel_rfl) (fun _ _ _ h => h) (Or.inl ⟨by rfl, ?_⟩) hHeld ?_
  rotate_left
  · intro w' hSw
    (try dsimp only at hSw)
    simp only [List.getElem_toArray, List.getElem_cons_zero, List.getElem_cons_succ]
    go_simp
    all_goals (try with_reducible rfl)
  try simp only [Act.put, List.setIfInBounds_toArray, List.set_cons_zero, List.set_cons_succ, List.getElem_toArray, List.getElem_cons_zero, List.getElem_cons_succ]
  refine wpAnyH_take (i := 4) (v := ?_) (by rfl) (by kernel_rfl) (by kernel_rfl) (by kernel_rfl) (fun _ _ _ h => h) (Or.inl ⟨by rfl, ?_⟩) hHeld ?_
  rotate_left
  · intro w' hSw
    (try dsimp only at hSw)
    simp only [List.getElem_toArray, List.getElem_cons_zero, List.getElem_cons_succ]
    go_simp
    all_goals (try with_reducible rfl)
  try simp only [Act.put, List.setIfInBounds_toArray, List.set_cons_zero, List.set_cons_succ, List.getElem_toArray, List.getElem_cons_zero, List.getElem_cons_succ]
  refine wpAnyH_ready (rs := [2]) (by kernel_rfl) (by simp) ?_
  refine AllReadyH.cons (by rfl) (fun K hK => ?_) AllReadyH.nil
  simp only [List.getElem_toArray, List.getElem_cons_zero, List.getElem_cons_succ]
  go_simp
  refine (VC0.out _ M.out.knw).mono ?_
  rintro e w4 ⟨rfl, q⟩
  have M := veil (M.out.keep q)
  clear q
  (try dsimp only)
  refine hK.out _ _ M.out.rng (fun hHeld => ?_)
  clear hK K
  try simp only [Act.put, List.setIfInBounds_toArray, List.set_cons_zero, List.set_cons_succ, List.getElem_toArray, List.getElem_cons_zero, List.getElem_cons_succ]
  refine wpAnyH_take (i := 5) (v := ?_) (by rfl) (by kernel_rfl) (by kernel_rfl) (by kernel_rfl) (fun _ _ _ h => h) (Or.inl ⟨by rfl, ?_⟩) hHeld ?_
  rotate_left
  · intro w' hSw
    (try dsimp only at hSw)
    simp only [List.getElem_toArray, List.getElem_cons_zero, List.getElem_cons_succ]
    go_simp
    all_goals (try with_reducible rfl)
  try simp only [Act.put, List.setIfInBounds_toArray, List.set_cons_zero, List.set_cons_succ, List.getElem_toArray, List.getElem_cons_zero, List.getElem_cons_succ]
  refine wpAnyH_take (i := 6) (v := _) (by rfl) (by kernel_rfl) (by kernel_rfl) (by kernel_rfl) (fun _ _ _ h => h) (yieldsIf_load_mid (by rfl) _ _ (by rfl) _ _ rfl (bv d) _ (fun _ h => h _ (List.mem_cons_of_mem _ (List.mem_cons_of_mem _ (List.mem_cons_of_mem _ List.mem_cons_self)))) Tryd.underlying23 rfl id.out) hHeld ?_
  try simp only [Act.put, List.setIfInBounds_toArray, List.set_cons_zero, List.set_cons_succ, List.getElem_toArray, List.getElem_cons_zero, List.getElem_cons_succ]
  refine wpAnyH_take (i := 7) (v := _) (by rfl) (by kernel_rfl) (by kernel_rfl) (by kernel_rfl) (fun _ _ _ h => h) (yieldsIf_load_mid (by rfl) _ _ (by rfl) _ _ rfl (bv t) _ (fun _ h => h _ (List.mem_cons_of_mem _ (List.mem_cons_of_mem _ (List.mem_cons_of_mem _ (List.mem_cons_of_mem _ List.mem_cons_self))))) Tryd.underlying23 rfl it.out) hHeld ?_
  try simp only [Act.put, List.setIfInBounds_toArray, List.set_cons_zero, List.set_cons_succ, List.getElem_toArray, List.getElem_cons_zero, List.getElem_cons_succ]
  refine wpAnyH_ready (rs := [8]) (by kernel_rfl) (by simp) ?_
  refine AllReadyH.cons (by rfl) (fun K hK => ?_) AllReadyH.nil
  simp only [List.getElem_toArray, List.getElem_cons_zero, List.getElem_cons_succ]
  go_simp
  refine (solicited_any t _ HT.out).mono ?_
  rintro e w5 ⟨rfl, q⟩
  have M := veil (M.out.keep q)
  clear q
  have E0 := VE0.out
  (try dsimp only)
  refine hK.out _ _ M.out.rng (fun hHeld => ?_)
  clear hK K
  try simp only [Act.put, List.setIfInBounds_toArray, List.set_cons_zero, List.set_cons_succ, List.getElem_toArray, List.getElem_cons_zero, List.getElem_cons_succ]
  refine wpAnyH_take (i := 9) (v := ?_) (by rfl) (by kernel_rfl) (by kernel_rfl) (by kernel_rfl) (fun _ _ _ h => h) (Or.inl ⟨by rfl, ?_⟩) hHeld ?_
  rotate_left
  · intro w' hSw
    (try dsimp only at hSw)
    simp only [List.getElem_toArray, List.getElem_cons_zero, List.getElem_cons_succ]
    go_simp
    all_goals (try with_reducible rfl)
  try simp only [Act.put, List.setIfInBounds_toArray, List.set_cons_zero, List.set_cons_succ, List.getElem_toArray, List.getElem_cons_zero, List.getElem_cons_succ]
  clear E0
  refine wpAnyH_take (i := 10) (v := ?_) (by rfl) (by kernel_rfl) (by kernel_rfl) (by kernel_rfl) (fun _ _ _ h => h) (Or.inl ⟨by rfl, ?_⟩) hHeld ?_
  rotate_left
  · intro w' hSw
    (try dsimp only at hSw)
    simp only [List.getElem_toArray, List.getElem_cons_zero, List.getElem_cons_succ]
    go_simp
    all_goals (try with_reducible rfl)
  try simp only [Act.put, List.setIfInBounds_toArray, List.set_cons_zero, List.set_cons_succ, List.getElem_toArray, List.getElem_cons_zero, List.getElem_cons_succ]
  refine wpAnyH_take (i := 11) (v := ?_) (by rfl) (by kernel_rfl) (by kernel_rfl) (by kernel_rfl) (fun _ _ _ h => h) (Or.inl ⟨by rfl, ?_⟩) hHeld ?_
  rotate_left
  · intro w' hSw
    (try dsimp only at hSw)
    simp only [List.getElem_toArray, List.getElem_cons_zero, List.getElem_cons_succ]
    go_simp
    all_goals (try with_reducible rfl)
  try simp only [Act.put, List.setIfInBounds_toArray, List.set_cons_zero, List.set_cons_succ, List.getElem_toArray, List.getElem_cons_zero, List.getElem_cons_succ]
  refine wpAnyH_done (by kernel_rfl) ?_ _
  refine NoPanic.normal ?_
  clear hHeld
  clear ip im id
  go_wp2_with (refine wpList_load_of rfl (.tmp 3) rfl rfl (M.out.lay.load (List.mem_cons_of_mem _ (List.mem_cons_of_mem _ (List.mem_cons_of_mem _ (List.mem_cons_of_mem _ List.mem_cons_self)))) (part_all _) Tryd.underlying23 rfl it.out) ?_; (try simp only [Act.put, List.setIfInBounds_toArray, List.set_cons_zero, List.set_cons_succ]))
  refine (solicited_any t _ HT.out).mono ?_
  rintro e w6 ⟨rfl, q⟩
  obtain ⟨w7, S7, M7⟩ := (M.out.keep q).part (P := Tryd.prog) 1 rfl 16 (bv (sol t)) 23 (cs' := pc (k0 (sol t)) nilV) (by rw [pc_len (k0_ends HD.out.len), bv_length, SO.out.len]; omega) (sizeAddr SO.out.len) (fun _ h => bv_byte h) (pc_putd (k0_ends HD.out.len) SO.out.len)
  simp only [List.set_cons_zero, List.set_cons_succ] at M7
  have VS7 := veil S7
  have M := veil M7
  clear q S7 M7
  go_wp2_with (first
    | (refine wpList_store_of rfl (.tmp 30) (.tmp 29) rfl rfl rfl VS7.out ?_; (try simp only [Act.put, List.setIfInBounds_toArray, List.set_cons_zero, List.set_cons_succ]))
    | (refine wpList_load_of rfl (.tmp 7) rfl rfl (pktAt M.out.lay mem1 (k0_ends SO.out.len)).all ?_; (try simp only [Act.put, List.setIfInBounds_toArray, List.set_cons_zero, List.set_cons_succ]))
    | (refine wpList_load_of rfl (.tmp 8) rfl rfl (msgAt M.out.lay mem0 (m0_fine HT.out.len)).all ?_; (try simp only [Act.put, List.setIfInBounds_toArray, List.set_cons_zero, List.set_cons_succ])))
  refine (VC1.out _ M.out.knw).mono ?_
  rintro e w8 ⟨rfl, q⟩
  have M8 := M.out.keep q
  have M9 := M8.new (cv [⟨14, none, 0, 0⟩, ⟨1, none, 0, 0⟩]) 46 (g := w8.heap.size) rfl
  obtain ⟨w10, S10, M10⟩ := M9.single (P := Tryd.prog) 1 rfl 41 (.slice (some ⟨w8.heap.size, 0, none⟩) 2 2) 31 (cs' := mc (m1 t (.slice (some ⟨w8.heap.size, 0, none⟩) 2 2))) (by rw [mc_len (m0_fine HT.out.len)]; omega) size_opts rfl rfl (mc_opts (m0_fine HT.out.len) _)
  simp only [List.set_cons_zero, List.set_cons_succ] at M10
  have VS10 := veil S10
  have M := veil M10
  clear q M8 M9 S10 M10 VS7
  go_wp2_with (first
    | (refine wpList_build_of rfl 46 #[(0, .const (.int .u8 14))] rfl #[(0, .int .u8 14)] (by simp [Act.eval]) (made_opt 14 _) ?_; (try simp only [Act.put, List.setIfInBounds_toArray, List.set_cons_zero, List.set_cons_succ]))
    | (refine wpList_build_of rfl 46 #[(0, .const (.int .u8 1))] rfl #[(0, .int .u8 1)] (by simp [Act.eval]) (made_opt 1 _) ?_; (try simp only [Act.put, List.setIfInBounds_toArray, List.set_cons_zero, List.set_cons_succ]))
    | (refine Ad.slice_at (some 38) rfl rfl 31 2 #[(0, .tmp 36), (1, .tmp 37)] rfl #[(0, ov ⟨14, none, 0, 0⟩), (1, ov ⟨1, none, 0, 0⟩)] (by simp [Act.eval]) (made_two 14 1 _) ?_; (try simp only [Act.put, List.setIfInBounds_toArray, List.set_cons_zero, List.set_cons_succ]))
    | (refine wpList_store_of rfl (.tmp 39) (.tmp 38) rfl rfl rfl VS10.out ?_; (try simp only [Act.put, List.setIfInBounds_toArray, List.set_cons_zero, List.set_cons_succ]))
    | (refine wpList_load_of rfl (.tmp 7) rfl rfl (pktAt M.out.lay mem2 (k0_ends SO.out.len)).all ?_; (try simp only [Act.put, List.setIfInBounds_toArray, List.set_cons_zero, List.set_cons_succ]))
    | (refine wpList_load_of rfl (.tmp 8) rfl rfl (msgAt M.out.lay mem1 (m1_fine HT.out.len _)).all ?_; (try simp only [Act.put, List.setIfInBounds_toArray, List.set_cons_zero, List.set_cons_succ])))
  generalize w8.heap.size = go at *
  refine (call1 go SO.out HT.out M.out.knw (op1_bare (ks := [14, 1]) M.out.lay mem0 rfl (by omega))).mono ?_
  rintro e w11 ⟨rfl, q⟩
  have M11 := M.out.keep q
  obtain ⟨w12, S12, M12⟩ := M11.part (P := Tryd.prog) 2 rfl 0 (bv s) 23 (cs' := pc (k2 s (sol t)) nilV) (by rw [pc_len (k0_ends SO.out.len), bv_length, HS.out.len]; omega) (sizeAddr HS.out.len) (fun _ h => bv_byte h) (pc_puts rfl HS.out.len)
  simp only [List.set_cons_zero, List.set_cons_succ] at M12
  obtain ⟨w13, S13, M13⟩ := M12.part (P := Tryd.prog) 2 rfl 16 (bv d) 23 (cs' := pc (k2 s d) nilV) (by rw [pc_len (k2_ends HS.out.len SO.out.len), bv_length, HD.out.len]; omega) (sizeAddr HD.out.len) (fun _ h => bv_byte h) (pc_putd (k2_ends HS.out.len SO.out.len) HD.out.len)
  simp only [List.set_cons_zero, List.set_cons_succ] at M13
  have VL12 := veil (M11.lay.load (P := Tryd.prog) (List.mem_cons_of_mem _ (List.mem_cons_of_mem _ (List.mem_cons_of_mem _ List.mem_cons_self))) (part_all _) Tryd.underlying23 rfl (sizeAddr HS.out.len))
  have VL13 := veil (M12.lay.load (P := Tryd.prog) (List.mem_cons_of_mem _ (List.mem_cons_of_mem _ (List.mem_cons_of_mem _ (List.mem_cons_of_mem _ List.mem_cons_self)))) (part_all _) Tryd.underlying23 rfl (sizeAddr HD.out.len))
  have VS12 := veil S12
  have VS13 := veil S13
  have M := veil M13
  clear q M11 M12 M13 S12 S13 VS10
  go_wp2_with (first
    | (refine wpList_load_of rfl (.tmp 5) rfl rfl VL12.out ?_; (try simp only [Act.put, List.setIfInBounds_toArray, List.set_cons_zero, List.set_cons_succ]))
    | (refine wpList_store_of rfl (.tmp 44) (.tmp 43) rfl rfl rfl VS12.out ?_; (try simp only [Act.put, List.setIfInBounds_toArray, List.set_cons_zero, List.set_cons_succ]))
    | (refine wpList_load_of rfl (.tmp 4) rfl rfl VL13.out ?_; (try simp only [Act.put, List.setIfInBounds_toArray, List.set_cons_zero, List.set_cons_succ]))
    | (refine wpList_store_of rfl (.tmp 46) (.tmp 45) rfl rfl rfl VS13.out ?_; (try simp only [Act.put, List.setIfInBounds_toArray, List.set_cons_zero, List.set_cons_succ])))
  clear VL12 VL13 VS12 VS13 it
  have M := veil M.out.drew
  have ip := veil (sizePkt (v := nilV) (k2_ends HS.out.len HD.out.len))
  have im := veil (sizeMsg (m1_fine HT.out.len go))
  have is := veil (sizeAddr HS.out.len)
  refine wp_region_noPanic ?_
  refine wp_region_held_drew (S := (fun w' => ∀ x ∈ [(go, (46, cv [⟨14, none, 0, 0⟩, ⟨1, none, 0, 0⟩])), (gm, (35, mc (m1 t (.slice (some ⟨go, 0, none⟩) 2 2)))), (gp, (30, pc (k2 s d) nilV)), (w.heap.size + 1 + 1, (23, bv s)), (w.heap.size + 1, (23, bv d)), (w.heap.size, (23, bv t))], w'.rangeAt x.1 0 x.2.2)) (by kernel_rfl) M.out.rng (fun hHeld => ?_)
  refine wpAnyH_take (i := 0) (v := _) (by rfl) (by kernel_rfl) (by kernel_rfl) (by kernel_rfl) (fun _ _ _ h => h) (yieldsIf_load_mid (by rfl) _ _ (by rfl) _ _ rfl (pc (k2 s d) nilV) _ (fun _ h => h _ (List.mem_cons_of_mem _ (List.mem_cons_of_mem _ List.mem_cons_self))) Tryd.underlying30 rfl ip.out) hHeld ?_
  try simp only [Act.put, List.setIfInBounds_toArray, List.set_cons_zero, List.set_cons_succ, List.getElem_toArray, List.getElem_cons_zero, List.getElem_cons_succ]
  refine wpAnyH_take (i := 1) (v := _) (by rfl) (by kernel_rfl) (by kernel_rfl) (by kernel_rfl) (fun _ _ _ h => h) (yieldsIf_load_mid (by rfl) _ _ (by rfl) _ _ rfl (mc (m1 t (.slice (some ⟨go, 0, none⟩) 2 2))) _ (fun _ h => h _ (List.mem_cons_of_mem _ List.mem_cons_self)) Tryd.underlying35 rfl im.out) hHeld ?_
  try simp only [Act.put, List.setIfInBounds_toArray, List.set_cons_zero, List.set_cons_succ, List.getElem_toArray, List.getElem_cons_zero, List.getElem_cons_succ]
  refine wpAnyH_take (i := 3) (v := ?_) (by rfl) (by kernel_rfl) (by kernel_rfl) (by kernel_rfl) (fun _ _ _ h => h) (Or.inl ⟨by rfl, ?_⟩) hHeld ?_
  rotate_left
  · intro w' hSw
    (try dsimp only at hSw)
    simp only [List.getElem_toArray, List.getElem_cons_zero, List.getElem_cons_succ]
    go_simp
    all_goals (try with_reducible rfl)
  try simp only [Act.put, List.setIfInBounds_toArray, List.set_cons_zero, List.set_cons_succ, List.getElem_toArray, List.getElem_cons_zero, List.getElem_cons_succ]
  refine wpAnyH_take (i := 4) (v := ?_) (by rfl) (by kernel_rfl) (by kernel_rfl) (by kernel_rfl) (fun _ _ _ h => h) (Or.inl ⟨by rfl, ?_⟩) hHeld ?_
  rotate_left
  · intro w' hSw
    (try dsimp only at hSw)
    simp only [List.getElem_toArray, List.getElem_cons_zero, List.getElem_cons_succ]
    go_simp
    all_goals (try with_reducible rfl)
  try simp only [Act.put, List.setIfInBounds_toArray, List.set_cons_zero, List.set_cons_succ, List.getElem_toArray, List.getElem_cons_zero, List.getElem_cons_succ]
  refine wpAnyH_ready (rs := [2]) (by kernel_rfl) (by simp) ?_
  refine AllReadyH.cons (by rfl) (fun K hK => ?_) AllReadyH.nil
  simp only [List.getElem_toArray, List.getElem_cons_zero, List.getElem_cons_succ]
  go_simp
  refine (VC3.out _ go M.out.knw (op1_bare (ks := [14, 1]) M.out.lay mem0 rfl (by omega))).mono ?_
  rintro e w14 ⟨rfl, q⟩
  have M := veil (M.out.keep q)
  clear q
  (try dsimp only)
  refine hK.out _ _ M.out.rng (fun hHeld => ?_)
  clear hK K
  try simp only [Act.put, List.setIfInBounds_toArray, List.set_cons_zero, List.set_cons_succ, List.getElem_toArray, List.getElem_cons_zero, List.getElem_cons_succ]
  refine wpAnyH_take (i := 5) (v := ?_) (by rfl) (by kernel_rfl) (by kernel_rfl) (by kernel_rfl) (fun _ _ _ h => h) (Or.inl ⟨by rfl, ?_⟩) hHeld ?_
  rotate_left
  · intro w' hSw
    (try dsimp only at hSw)
    simp only [List.getElem_toArray, List.getElem_cons_zero, List.getElem_cons_succ]
    go_simp
    all_goals (try with_reducible rfl)
  try simp only [Act.put, List.setIfInBounds_toArray, List.set_cons_zero, List.set_cons_succ, List.getElem_toArray, List.getElem_cons_zero, List.getElem_cons_succ]
  refine wpAnyH_take (i := 6) (v := _) (by rfl) (by kernel_rfl) (by kernel_rfl) (by kernel_rfl) (fun _ _ _ h => h) (yieldsIf_load_mid (by rfl) _ _ (by rfl) _ _ rfl (bv s) _ (fun _ h => h _ (List.mem_cons_of_mem _ (List.mem_cons_of_mem _ (List.mem_cons_of_mem _ List.mem_cons_self)))) Tryd.underlying23 rfl is.out) hHeld ?_
  try simp only [Act.put, List.setIfInBounds_toArray, List.set_cons_zero, List.set_cons_succ, List.getElem_toArray, List.getElem_cons_zero, List.getElem_cons_succ]
  refine wpAnyH_ready (rs := [7]) (by kernel_rfl) (by simp) ?_
  refine AllReadyH.cons (by rfl) (fun K hK => ?_) AllReadyH.nil
  simp only [List.getElem_toArray, List.getElem_cons_zero, List.getElem_cons_succ]
  go_simp
  refine (unspecified_any _ M.out.knw).mono ?_
  rintro e w15 ⟨rfl, q⟩
  have M := veil (M.out.keep q)
  clear q
  have E1 := VE1.out
  (try dsimp only)
  refine hK.out _ _ M.out.rng (fun hHeld => ?_)
  clear hK K
  try simp only [Act.put, List.setIfInBounds_toArray, List.set_cons_zero, List.set_cons_succ, List.getElem_toArray, List.getElem_cons_zero, List.getElem_cons_succ]
  refine wpAnyH_take (i := 8) (v := ?_) (by rfl) (by kernel_rfl) (by kernel_rfl) (by kernel_rfl) (fun _ _ _ h => h) (Or.inl ⟨by rfl, ?_⟩) hHeld ?_
  rotate_left
  · intro w' hSw
    (try dsimp only at hSw)
    simp only [List.getElem_toArray, List.getElem_cons_zero, List.getElem_cons_succ]
    go_simp
    all_goals (try with_reducible rfl)
  try simp only [Act.put, List.setIfInBounds_toArray, List.set_cons_zero, List.set_cons_succ, List.getElem_toArray, List.getElem_cons_zero, List.getElem_cons_succ]
  clear E1
  refine wpAnyH_take (i := 9) (v := ?_) (by rfl) (by kernel_rfl) (by kernel_rfl) (by kernel_rfl) (fun _ _ _ h => h) (Or.inl ⟨by rfl, ?_⟩) hHeld ?_
  rotate_left
  · intro w' hSw
    (try dsimp only at hSw)
    simp only [List.getElem_toArray, List.getElem_cons_zero, List.getElem_cons_succ]
    go_simp
    all_goals (try with_reducible rfl)
  try simp only [Act.put, List.setIfInBounds_toArray, List.set_cons_zero, List.set_cons_succ, List.getElem_toArray, List.getElem_cons_zero, List.getElem_cons_succ]
  refine wpAnyH_take (i := 10) (v := ?_) (by rfl) (by kernel_rfl) (by kernel_rfl) (by kernel_rfl) (fun _ _ _ h => h) (Or.inl ⟨by rfl, ?_⟩) hHeld ?_
  rotate_left
  · intro w' hSw
    (try dsimp only at hSw)
    simp only [List.getElem_toArray, List.getElem_cons_zero, List.getElem_cons_succ]
    go_simp
    all_goals (try with_reducible rfl)
  try simp only [Act.put, List.setIfInBounds_toArray, List.set_cons_zero, List.set_cons_succ, List.getElem_toArray, List.getElem_cons_zero, List.getElem_cons_succ]
  refine wpAnyH_take (i := 11) (v := ?_) (by rfl) (by kernel_rfl) (by kernel_rfl) (by kernel_rfl) (fun _ _ _ h => h) (Or.inl ⟨by rfl, ?_⟩) hHeld ?_
  rotate_left
  · intro w' hSw
    (try dsimp only at hSw)
    simp only [List.getElem_toArray, List.getElem_cons_zero, List.getElem_cons_succ]
    go_simp
    all_goals (try with_reducible rfl)
  try simp only [Act.put, List.setIfInBounds_toArray, List.set_cons_zero, List.set_cons_succ, List.getElem_toArray, List.getElem_cons_zero, List.getElem_cons_succ]
  refine wpAnyH_ready (rs := [12]) (by kernel_rfl) (by simp) ?_
  refine AllReadyH.cons (by rfl) (fun K hK => ?_) AllReadyH.nil
  simp only [List.getElem_toArray, List.getElem_cons_zero, List.getElem_cons_succ]
  go_simp
  refine (lives_true _ M.out.knw).mono ?_
  rintro e w16 ⟨rfl, q⟩
  have M := veil (M.out.keep q)
  clear q
  (try dsimp only)
  refine hK.out _ _ M.out.rng (fun hHeld => ?_)
  clear hK K
  try simp only [Act.put, List.setIfInBounds_toArray, List.set_cons_zero, List.set_cons_succ, List.getElem_toArray, List.getElem_cons_zero, List.getElem_cons_succ]
  refine wpAnyH_take (i := 13) (v := ?_) (by rfl) (by kernel_rfl) (by kernel_rfl) (by kernel_rfl) (fun _ _ _ h => h) (Or.inl ⟨by rfl, ?_⟩) hHeld ?_
  rotate_left
  · intro w' hSw
    (try dsimp only at hSw)
    simp only [List.getElem_toArray, List.getElem_cons_zero, List.getElem_cons_succ]
    go_simp
    all_goals (try with_reducible rfl)
  try simp only [Act.put, List.setIfInBounds_toArray, List.set_cons_zero, List.set_cons_succ, List.getElem_toArray, List.getElem_cons_zero, List.getElem_cons_succ]
  refine wpAnyH_take (i := 14) (v := ?_) (by rfl) (by kernel_rfl) (by kernel_rfl) (by kernel_rfl) (fun _ _ _ h => h) (Or.inl ⟨by rfl, ?_⟩) hHeld ?_
  rotate_left
  · intro w' hSw
    (try dsimp only at hSw)
    simp only [List.getElem_toArray, List.getElem_cons_zero, List.getElem_cons_succ]
    go_simp
    all_goals (try with_reducible rfl)
  try simp only [Act.put, List.setIfInBounds_toArray, List.set_cons_zero, List.set_cons_succ, List.getElem_toArray, List.getElem_cons_zero, List.getElem_cons_succ]
  refine wpAnyH_done (by kernel_rfl) ?_ _
  refine NoPanic.normal ?_
  clear hHeld
  go_wp2_with fail
  go_ret
  exact ⟨rfl, M.out.below⟩

set_option linter.unusedSimpArgs false in
set_option maxHeartbeats 8000000 in
theorem walkFF (t d s : List Int) (w : World) (ht : Ok t) (hd : Ok d) (hs : Ok s) (hk : Knw w) (hm : mult t = false) (hz : decide (d = sol t) = false) (hn : nob s = false) :
    Calls Tryd.prog 6 #[av t, av d, av s] w fun e w' => e = .returned (.bool true) ∧ Below w.heap.size w w' := by
  obtain ⟨ZP, hZP⟩ : ∃ Z : Array Value, Z = #[.int .u8 0, .int .u8 0, .int .u8 0, .int .u8 0, .int .u8 0, .int .u8 0, .int .u8 0, .int .u8 0, .int .u8 0, .int .u8 0, .int .u8 0, .int .u8 0, .int .u8 0, .int .u8 0, .int .u8 0, .int .u8 0, .int .u8 0, .int .u8 0, .int .u8 0, .int .u8 0, .int .u8 0, .int .u8 0, .int .u8 0, .int .u8 0, .int .u8 0, .int .u8 0, .int .u8 0, .int .u8 0, .int .u8 0, .int .u8 0, .int .u8 0, .int .u8 0, .int .u8 0, .bool false, .bool false, .int .u32 0, .int .u16 0, .bool false, .int .u8 0, .slice none 0 0] := ⟨_, rfl⟩
  obtain ⟨ZM, hZM⟩ : ∃ Z : Array Value, Z = #[.int .u8 0, .int .u8 0, .int .u32 0, .slice none 0 0, .int .u8 0, .int .u8 0, .int .u16 0, .int .u32 0, .int .u32 0, .int .u8 0, .int .u8 0, .int .u8 0, .int .u8 0, .int .u8 0, .int .u8 0, .int .u8 0, .int .u8 0, .int .u8 0, .int .u8 0, .int .u8 0, .int .u8 0, .int .u8 0, .int .u8 0, .int .u8 0, .int .u8 0, .int .u8 0, .int .u8 0, .int .u8 0, .int .u8 0, .int .u8 0, .int .u8 0, .int .u8 0, .int .u8 0, .int .u8 0, .int .u8 0, .int .u8 0, .int .u8 0, .int .u8 0, .int .u8 0, .int .u8 0, .int .u8 0, .slice none 0 0, .int .u16 0, .int .u8 0, .int .u8 0, .int .u8 0, .int .u8 0, .int .u8 0, .int .u8 0, .int .u8 0, .int .u8 0, .int .u8 0, .int .u8 0, .int .u8 0, .int .u8 0, .int .u8 0, .int .u8 0, .int .u8 0, .int .u8 0, .int .u8 0, .int .u8 0, .slice none 0 0, .slice none 0 0] := ⟨_, rfl⟩
  have sP : ZP.size = 40 := by rw [hZP]; rfl
  have sM : ZM.size = 63 := by rw [hZM]; rfl
  have M0 := (((Kw.begin hk).new (bv t) 23 (g := w.heap.size) rfl).new (bv d) 23 (g := w.heap.size + 1) (by simp)).new (bv s) 23 (g := w.heap.size + 1 + 1) (by simp)
  obtain ⟨wb, hwb⟩ : ∃ x, ((w.alloc (.cells (bv t).toArray 23)).alloc (.cells (bv d).toArray 23)).alloc (.cells (bv s).toArray 23) = x := ⟨_, rfl⟩
  rw [hwb] at M0
  have L1 := M0.lay.load (P := Tryd.prog) mem1 (part_all _) Tryd.underlying23 rfl (sizeAddr hd.len)
  obtain ⟨w1, S1, M1⟩ := M0.fresh (P := Tryd.prog) ZP 30 (pc (k0 d) nilV) (by rw [sP, pc_len (k0_ends hd.len)]) (sizePkt (k0_ends hd.len)) (pc_one rfl)
  have szb : wb.heap.size = w.heap.size + 1 + 1 + 1 := by rw [← hwb]; simp
  rw [szb] at S1 M1
  clear szb
  have L2 := M1.lay.load (P := Tryd.prog) mem3 (part_all _) Tryd.underlying23 rfl (sizeAddr ht.len)
  obtain ⟨w2, S2, M2⟩ := M1.fresh (P := Tryd.prog) ZM 35 (mc (m0 t)) (by rw [sM, mc_len (m0_fine ht.len)]) (sizeMsg (m0_fine ht.len)) (mc_one (m0_fine ht.len))
  have L3 := M2.lay.load (P := Tryd.prog) mem4 (part_all _) Tryd.underlying23 rfl (sizeAddr ht.len)
  have VS1 := veil S1
  have VS2 := veil S2
  have VL1 := veil L1
  have VL2 := veil L2
  have VL3 := veil L3
  have M := veil M2
  have HT := veil ht
  have HD := veil hd
  have HS := veil hs
  have HMU := veil hm
  have SO := veil (sol_ok ht)
  have C0 : ∀ u, Knw u → Calls Tryd.prog 11 #[pv (k0 d) nilV, mv (m0 t)] u fun e w' => e = .returned (.bool false) ∧ Below u.heap.size u w' := fun u hu => call0 _ hd ht hu (by rw [hm, hz]; rfl)
  have E0 : ∀ u, (binOp .eql 23 (av d) (av (sol t))).run Tryd.prog u = .ok (.bool false) u := fun u => by rw [eql_any u hd.len (sol_ok ht).len hz]
  have E1 : ∀ u, (binOp .neq 23 (av s) (av (kn 0))).run Tryd.prog u = .ok (.bool true) u := fun u => by rw [neq_any u hs.len (kn_len (by omega)) hn]; rfl
  have C1 : ∀ u, Knw u → Calls Tryd.prog 11 #[pv (k0 (sol t)) nilV, mv (m0 t)] u fun e w' => e = .returned (.bool true) ∧ Below u.heap.size u w' := fun u hu => call0 _ (sol_ok ht) ht hu (by rw [hm]; simp)
  have C3 : ∀ u g, Knw u → Op1 u (.slice (some ⟨g, 0, none⟩) 2 2) two → Calls Tryd.prog 11 #[pv (k2 s d) nilV, mv (m1 t (.slice (some ⟨g, 0, none⟩) 2 2))] u fun e w' => e = .returned (.bool true) ∧ Below u.heap.size u w' := fun u g hu ho => call2 _ g hs hd ht hu ho (by rw [hm, hn]; rfl)
  have VC0 := veil C0
  have VC1 := veil C1
  have VC3 := veil C3
  have VE0 := veil E0
  have VE1 := veil E1
  clear E0 E1 hz hn
  clear M0 M1 M2 S1 S2 L1 L2 L3 sP sM ht hd hs hk hm C0 C1 C3
  subst hwb hZP hZM
  go_enter Tryd.func6, Tryd.ntmps6
  go_wp2_with (first
    | (refine wpList_load_of rfl (.tmp 4) rfl rfl VL1.out ?_; (try simp only [Act.put, List.setIfInBounds_toArray, List.set_cons_zero, List.set_cons_succ]))
    | (refine wpList_build_of rfl 30 #[(1, .tmp 10), (2, .const (.int .u8 255))] rfl #[(1, av d), (2, .int .u8 255)] (by simp [Act.eval]) (made_dst HD.out.len 255 _) ?_; (try simp only [Act.put, List.setIfInBounds_toArray, List.set_cons_zero, List.set_cons_succ]))
    | (refine wpList_store_of rfl (.tmp 7) (.tmp 11) rfl rfl rfl VS1.out ?_; (try simp only [Act.put, List.setIfInBounds_toArray, List.set_cons_zero, List.set_cons_succ]))
    | (refine wpList_load_of rfl (.tmp 3) rfl rfl VL2.out ?_; (try simp only [Act.put, List.setIfInBounds_toArray, List.set_cons_zero, List.set_cons_succ]))
    | (refine wpList_build_of rfl 35 #[(0, .const (.int .u8 135)), (9, .tmp 12)] rfl #[(0, .int .u8 135), (9, av t)] (by simp [Act.eval]) (made_target HT.out.len 135 _) ?_; (try simp only [Act.put, List.setIfInBounds_toArray, List.set_cons_zero, List.set_cons_succ]))
    | (refine wpList_store_of rfl (.tmp 8) (.tmp 13) rfl rfl rfl VS2.out ?_; (try simp only [Act.put, List.setIfInBounds_toArray, List.set_cons_zero, List.set_cons_succ]))
    | (refine wpList_load_of rfl (.tmp 3) rfl rfl VL3.out ?_; (try simp only [Act.put, List.setIfInBounds_toArray, List.set_cons_zero, List.set_cons_succ])))
  refine (isMulticast_any t _ HT.out).mono ?_
  rintro e w3 ⟨rfl, q⟩
  have M := veil (M.out.keep q)
  clear q VS1 VS2 VL1 VL2 VL3
  rw [HMU.out]
  generalize ((w.alloc (.cells (bv t).toArray 23)).alloc (.cells (bv d).toArray 23)).alloc (.cells (bv s).toArray 23) = wb at *
  generalize w.heap.size + 1 + 1 + 1 = gp at *
  generalize w1.heap.size = gm at *
  go_wp2_with fail
  have M := veil M.out.drew
  have ip := veil (sizePkt (v := nilV) (k0_ends HD.out.len))
  have im := veil (sizeMsg (m0_fine HT.out.len))
  have id := veil (sizeAddr HD.out.len)
  have it := veil (sizeAddr HT.out.len)
  refine wp_region_noPanic ?_
  refine wp_region_held_drew (S := (fun w' => ∀ x ∈ [(gm, (35, mc (m0 t))), (gp, (30, pc (k0 d) nilV)), (w.heap.size + 1 + 1, (23, bv s)), (w.heap.size + 1, (23, bv d)), (w.heap.size, (23, bv t))], w'.rangeAt x.1 0 x.2.2)) (by kernel_rfl) M.out.rng (fun hHeld => ?_)
  refine wpAnyH_take (i := 0) (v := _) (by rfl) (by kernel_rfl) (by kernel_rfl) (by kernel_rfl) (fun _ _ _ h => h) (yieldsIf_load_mid (by rfl) _ _ (by rfl) _ _ rfl (pc (k0 d) nilV) _ (fun _ h => h _ (List.mem_cons_of_mem _ List.mem_cons_self)) Tryd.underlying30 rfl ip.out) hHeld ?_
  try simp only [Act.put, List.setIfInBounds_toArray, List.set_cons_zero, List.set_cons_succ, List.getElem_toArray, List.getElem_cons_zero, List.getElem_cons_succ]
  refine wpAnyH_take (i := 1) (v := _) (by rfl) (by kernel_rfl) (by kernel_rfl) (by kernel_rfl) (fun _ _ _ h => h) (yieldsIf_load_mid (by rfl) _ _ (by rfl) _ _ rfl (mc (m0 t)) _ (fun _ h => h _ List.mem_cons_self) Tryd.underlying35 rfl im.out) hHeld ?_
  try simp only [Act.put, List.setIfInBounds_toArray, List.set_cons_zero, List.set_cons_succ, List.getElem_toArray, List.getElem_cons_zero, List.getElem_cons_succ]
  refine wpAnyH_take (i := 3) (v := ?_) (by rfl) (by kernel_rfl) (by kernel_rfl) (by kernel_rfl) (fun _ _ _ h => h) (Or.inl ⟨by rfl, ?_⟩) hHeld ?_
  rotate_left
  · intro w' hSw
    (try dsimp only at hSw)
    simp only [List.getElem_toArray, List.getElem_cons_zero, List.getElem_cons_succ]
    go_simp
    all_goals (try with_reducible rfl)
  try simp only [Act.put, List.setIfInBounds_toArray, List.set_cons_zero, List.set_cons_succ, List.getElem_toArray, List.getElem_cons_zero, List.getElem_cons_succ]
  refine wpAnyH_take (i := 4) (v := ?_) (by rfl) (by kernel_rfl) (by kernel_rfl) (by kernel_rfl) (fun _ _ _ h => h) (Or.inl ⟨by rfl, ?_⟩) hHeld ?_
  rotate_left
  · intro w' hSw
    (try dsimp only at hSw)
    simp only [List.getElem_toArray, List.getElem_cons_zero, List.getElem_cons_succ]
    go_simp
    all_goals (try with_reducible rfl)
  try simp only [Act.put, List.setIfInBounds_toArray, List.set_cons_zero, List.set_cons_succ, List.getElem_toArray, List.getElem_cons_zero, List.getElem_cons_succ]
  refine wpAnyH_ready (rs := [2]) (by kernel_rfl) (by simp) ?_
  refine AllReadyH.cons (by rfl) (fun K hK => ?_) AllReadyH.nil
  simp only [List.getElem_toArray, List.getElem_cons_zero, List.getElem_cons_succ]
  go_simp
  refine (VC0.out _ M.out.knw).mono ?_
  rintro e w4 ⟨rfl, q⟩
  have M := veil (M.out.keep q)
  clear q
  (try dsimp only)
  refine hK.out _ _ M.out.rng (fun hHeld => ?_)
  clear hK K
  try simp only [Act.put, List.setIfInBounds_toArray, List.set_cons_zero, List.set_cons_succ, List.getElem_toArray, List.getElem_cons_zero, List.getElem_cons_succ]
  refine wpAnyH_take (i := 5) (v := ?_) (by rfl) (by kernel_rfl) (by kernel_rfl) (by kernel_rfl) (fun _ _ _ h => h) (Or.inl ⟨by rfl, ?_⟩) hHeld ?_
  rotate_left
  · intro w' hSw
    (try dsimp only at hSw)
    simp only [List.getElem_toArray, List.getElem_cons_zero, List.getElem_cons_succ]
    go_simp
    all_goals (try with_reducible rfl)
  try simp only [Act.put, List.setIfInBounds_toArray, List.set_cons_zero, List.set_cons_succ, List.getElem_toArray, List.getElem_cons_zero, List.getElem_cons_succ]
  refine wpAnyH_take (i := 6) (v := _) (by rfl) (by kernel_rfl) (by kernel_rfl) (by kernel_rfl) (fun _ _ _ h => h) (yieldsIf_load_mid (by rfl) _ _ (by rfl) _ _ rfl (bv d) _ (fun _ h => h _ (List.mem_cons_of_mem _ (List.mem_cons_of_mem _ (List.mem_cons_of_mem _ List.mem_cons_self)))) Tryd.underlying23 rfl id.out) hHeld ?_
  try simp only [Act.put, List.setIfInBounds_toArray, List.set_cons_zero, List.set_cons_succ, List.getElem_toArray, List.getElem_cons_zero, List.getElem_cons_succ]
  refine wpAnyH_take (i := 7) (v := _) (by rfl) (by kernel_rfl) (by kernel_rfl) (by kernel_rfl) (fun _ _ _ h => h) (yieldsIf_load_mid (by rfl) _ _ (by rfl) _ _ rfl (bv t) _ (fun _ h => h _ (List.mem_cons_of_mem _ (List.mem_cons_of_mem _ (List.mem_cons_of_mem _ (List.mem_cons_of_mem _ List.mem_cons_self))))) Tryd.underlying23 rfl it.out) hHeld ?_
  try simp only [Act.put, List.setIfInBounds_toArray, List.set_cons_zero, List.set_cons_succ, List.getElem_toArray, List.getElem_cons_zero, List.getElem_cons_succ]
  refine wpAnyH_ready (rs := [8]) (by kernel_rfl) (by simp) ?_
  refine AllReadyH.cons (by rfl) (fun K hK => ?_) AllReadyH.nil
  simp only [List.getElem_toArray, List.getElem_cons_zero, List.getElem_cons_succ]
  go_simp
  refine (solicited_any t _ HT.out).mono ?_
  rintro e w5 ⟨rfl, q⟩
  have M := veil (M.out.keep q)
  clear q
  have E0 := VE0.out
  (try dsimp only)
  refine hK.out _ _ M.out.rng (fun hHeld => ?_)
  clear hK K
  try simp only [Act.put, List.setIfInBounds_toArray, List.set_cons_zero, List.set_cons_succ, List.getElem_toArray, List.getElem_cons_zero, List.getElem_cons_succ]
  refine wpAnyH_take (i := 9) (v := ?_) (by rfl) (by kernel_rfl) (by kernel_rfl) (by kernel_rfl) (fun _ _ _ h => h) (Or.inl ⟨by rfl, ?_⟩) hHeld ?_
  rotate_left
  · intro w' hSw
    (try dsimp only at hSw)
    simp only [List.getElem_toArray, List.getElem_cons_zero, List.getElem_cons_succ]
    go_simp
    all_goals (try with_reducible rfl)
  try simp only [Act.put, List.setIfInBounds_toArray, List.set_cons_zero, List.set_cons_succ, List.getElem_toArray, List.getElem_cons_zero, List.getElem_cons_succ]
  clear E0
  refine wpAnyH_take (i := 10) (v := ?_) (by rfl) (by kernel_rfl) (by kernel_rfl) (by kernel_rfl) (fun _ _ _ h => h) (Or.inl ⟨by rfl, ?_⟩) hHeld ?_
  rotate_left
  · intro w' hSw
    (try dsimp only at hSw)
    simp only [List.getElem_toArray, List.getElem_cons_zero, List.getElem_cons_succ]
    go_simp
    all_goals (try with_reducible rfl)
  try simp only [Act.put, List.setIfInBounds_toArray, List.set_cons_zero, List.set_cons_succ, List.getElem_toArray, List.getElem_cons_zero, List.getElem_cons_succ]
  refine wpAnyH_take (i := 11) (v := ?_) (by rfl) (by kernel_rfl) (by kernel_rfl) (by kernel_rfl) (fun _ _ _ h => h) (Or.inl ⟨by rfl, ?_⟩) hHeld ?_
  rotate_left
  · intro w' hSw
    (try dsimp only at hSw)
    simp only [List.getElem_toArray, List.getElem_cons_zero, List.getElem_cons_succ]
    go_simp
    all_goals (try with_reducible rfl)
  try simp only [Act.put, List.setIfInBounds_toArray, List.set_cons_zero, List.set_cons_succ, List.getElem_toArray, List.getElem_cons_zero, List.getElem_cons_succ]
  refine wpAnyH_done (by kernel_rfl) ?_ _
  refine NoPanic.normal ?_
  clear hHeld
  clear ip im id
  go_wp2_with (refine wpList_load_of rfl (.tmp 3) rfl rfl (M.out.lay.load (List.mem_cons_of_mem _ (List.mem_cons_of_mem _ (List.mem_cons_of_mem _ (List.mem_cons_of_mem _ List.mem_cons_self)))) (part_all _) Tryd.underlying23 rfl it.out) ?_; (try simp only [Act.put, List.setIfInBounds_toArray, List.set_cons_zero, List.set_cons_succ]))
  refine (solicited_any t _ HT.out).mono ?_
  rintro e w6 ⟨rfl, q⟩
  obtain ⟨w7, S7, M7⟩ := (M.out.keep q).part (P := Tryd.prog) 1 rfl 16 (bv (sol t)) 23 (cs' := pc (k0 (sol t)) nilV) (by rw [pc_len (k0_ends HD.out.len), bv_length, SO.out.len]; omega) (sizeAddr SO.out.len) (fun _ h => bv_byte h) (pc_putd (k0_ends HD.out.len) SO.out.len)
  simp only [List.set_cons_zero, List.set_cons_succ] at M7
  have VS7 := veil S7
  have M := veil M7
  clear q S7 M7
  go_wp2_with (first
    | (refine wpList_store_of rfl (.tmp 30) (.tmp 29) rfl rfl rfl VS7.out ?_; (try simp only [Act.put, List.setIfInBounds_toArray, List.set_cons_zero, List.set_cons_succ]))
    | (refine wpList_load_of rfl (.tmp 7) rfl rfl (pktAt M.out.lay mem1 (k0_ends SO.out.len)).all ?_; (try simp only [Act.put, List.setIfInBounds_toArray, List.set_cons_zero, List.set_cons_succ]))
    | (refine wpList_load_of rfl (.tmp 8) rfl rfl (msgAt M.out.lay mem0 (m0_fine HT.out.len)).all ?_; (try simp only [Act.put, List.setIfInBounds_toArray, List.set_cons_zero, List.set_cons_succ])))
  refine (VC1.out _ M.out.knw).mono ?_
  rintro e w8 ⟨rfl, q⟩
  have M8 := M.out.keep q
  have M9 := M8.new (cv [⟨14, none, 0, 0⟩, ⟨1, none, 0, 0⟩]) 46 (g := w8.heap.size) rfl
  obtain ⟨w10, S10, M10⟩ := M9.single (P := Tryd.prog) 1 rfl 41 (.slice (some ⟨w8.heap.size, 0, none⟩) 2 2) 31 (cs' := mc (m1 t (.slice (some ⟨w8.heap.size, 0, none⟩) 2 2))) (by rw [mc_len (m0_fine HT.out.len)]; omega) size_opts rfl rfl (mc_opts (m0_fine HT.out.len) _)
  simp only [List.set_cons_zero, List.set_cons_succ] at M10
  have VS10 := veil S10
  have M := veil M10
  clear q M8 M9 S10 M10 VS7
  go_wp2_with (first
    | (refine wpList_build_of rfl 46 #[(0, .const (.int .u8 14))] rfl #[(0, .int .u8 14)] (by simp [Act.eval]) (made_opt 14 _) ?_; (try simp only [Act.put, List.setIfInBounds_toArray, List.set_cons_zero, List.set_cons_succ]))
    | (refine wpList_build_of rfl 46 #[(0, .const (.int .u8 1))] rfl #[(0, .int .u8 1)] (by simp [Act.eval]) (made_opt 1 _) ?_; (try simp only [Act.put, List.setIfInBounds_toArray, List.set_cons_zero, List.set_cons_succ]))
    | (refine Ad.slice_at (some 38) rfl rfl 31 2 #[(0, .tmp 36), (1, .tmp 37)] rfl #[(0, ov ⟨14, none, 0, 0⟩), (1, ov ⟨1, none, 0, 0⟩)] (by simp [Act.eval]) (made_two 14 1 _) ?_; (try simp only [Act.put, List.setIfInBounds_toArray, List.set_cons_zero, List.set_cons_succ]))
    | (refine wpList_store_of rfl (.tmp 39) (.tmp 38) rfl rfl rfl VS10.out ?_; (try simp only [Act.put, List.setIfInBounds_toArray, List.set_cons_zero, List.set_cons_succ]))
    | (refine wpList_load_of rfl (.tmp 7) rfl rfl (pktAt M.out.lay mem2 (k0_ends SO.out.len)).all ?_; (try simp only [Act.put, List.setIfInBounds_toArray, List.set_cons_zero, List.set_cons_succ]))
    | (refine wpList_load_of rfl (.tmp 8) rfl rfl (msgAt M.out.lay mem1 (m1_fine HT.out.len _)).all ?_; (try simp only [Act.put, List.setIfInBounds_toArray, List.set_cons_zero, List.set_cons_succ])))
  generalize w8.heap.size = go at *
  refine (call1 go SO.out HT.out M.out.knw (op1_bare (ks := [14, 1]) M.out.lay mem0 rfl (by omega))).mono ?_
  rintro e w11 ⟨rfl, q⟩
  have M11 := M.out.keep q
  obtain ⟨w12, S12, M12⟩ := M11.part (P := Tryd.prog) 2 rfl 0 (bv s) 23 (cs' := pc (k2 s (sol t)) nilV) (by rw [pc_len (k0_ends SO.out.len), bv_length, HS.out.len]; omega) (sizeAddr HS.out.len) (fun _ h => bv_byte h) (pc_puts rfl HS.out.len)
  simp only [List.set_cons_zero, List.set_cons_succ] at M12
  obtain ⟨w13, S13, M13⟩ := M12.part (P := Tryd.prog) 2 rfl 16 (bv d) 23 (cs' := pc (k2 s d) nilV) (by rw [pc_len (k2_ends HS.out.len SO.out.len), bv_length, HD.out.len]; omega) (sizeAddr HD.out.len) (fun _ h => bv_byte h) (pc_putd (k2_ends HS.out.len SO.out.len) HD.out.len)
  simp only [List.set_cons_zero, List.set_cons_succ] at M13
  have VL12 := veil (M11.lay.load (P := Tryd.prog) (List.mem_cons_of_mem _ (List.mem_cons_of_mem _ (List.mem_cons_of_mem _ List.mem_cons_self))) (part_all _) Tryd.underlying23 rfl (sizeAddr HS.out.len))
  have VL13 := veil (M12.lay.load (P := Tryd.prog) (List.mem_cons_of_mem _ (List.mem_cons_of_mem _ (List.mem_cons_of_mem _ (List.mem_cons_of_mem _ List.mem_cons_self)))) (part_all _) Tryd.underlying23 rfl (sizeAddr HD.out.len))
  have VS12 := veil S12
  have VS13 := veil S13
  have M := veil M13
  clear q M11 M12 M13 S12 S13 VS10
  go_wp2_with (first
    | (refine wpList_load_of rfl (.tmp 5) rfl rfl VL12.out ?_; (try simp only [Act.put, List.setIfInBounds_toArray, List.set_cons_zero, List.set_cons_succ]))
    | (refine wpList_store_of rfl (.tmp 44) (.tmp 43) rfl rfl rfl VS12.out ?_; (try simp only [Act.put, List.setIfInBounds_toArray, List.set_cons_zero, List.set_cons_succ]))
    | (refine wpList_load_of rfl (.tmp 4) rfl rfl VL13.out ?_; (try simp only [Act.put, List.setIfInBounds_toArray, List.set_cons_zero, List.set_cons_succ]))
    | (refine wpList_store_of rfl (.tmp 46) (.tmp 45) rfl rfl rfl VS13.out ?_; (try simp only [Act.put, List.setIfInBounds_toArray, List.set_cons_zero, List.set_cons_succ])))
  clear VL12 VL13 VS12 VS13 it
  have M := veil M.out.drew
  have ip := veil (sizePkt (v := nilV) (k2_ends HS.out.len HD.out.len))
  have im := veil (sizeMsg (m1_fine HT.out.len go))
  have is := veil (sizeAddr HS.out.len)
  refine wp_region_noPanic ?_
  refine wp_region_held_drew (S := (fun w' => ∀ x ∈ [(go, (46, cv [⟨14, none, 0, 0⟩, ⟨1, none, 0, 0⟩])), (gm, (35, mc (m1 t (.slice (some ⟨go, 0, none⟩) 2 2)))), (gp, (30, pc (k2 s d) nilV)), (w.heap.size + 1 + 1, (23, bv s)), (w.heap.size + 1, (23, bv d)), (w.heap.size, (23, bv t))], w'.rangeAt x.1 0 x.2.2)) (by kernel_rfl) M.out.rng (fun hHeld => ?_)
  refine wpAnyH_take (i := 0) (v := _) (by rfl) (by kernel_rfl) (by kernel_rfl) (by kernel_rfl) (fun _ _ _ h => h) (yieldsIf_load_mid (by rfl) _ _ (by rfl) _ _ rfl (pc (k2 s d) nilV) _ (fun _ h => h _ (List.mem_cons_of_mem _ (List.mem_cons_of_mem _ List.mem_cons_self))) Tryd.underlying30 rfl ip.out) hHeld ?_
  try simp only [Act.put, List.setIfInBounds_toArray, List.set_cons_zero, List.set_cons_succ, List.getElem_toArray, List.getElem_cons_zero, List.getElem_cons_succ]
  refine wpAnyH_take (i := 1) (v := _) (by rfl) (by kernel_rfl) (by kernel_rfl) (by kernel_rfl) (fun _ _ _ h => h) (yieldsIf_load_mid (by rfl) _ _ (by rfl) _ _ rfl (mc (m1 t (.slice (some ⟨go, 0, none⟩) 2 2))) _ (fun _ h => h _ (List.mem_cons_of_mem _ List.mem_cons_self)) Tryd.underlying35 rfl im.out) hHeld ?_
  try simp only [Act.put, List.setIfInBounds_toArray, List.set_cons_zero, List.set_cons_succ, List.getElem_toArray, List.getElem_cons_zero, List.getElem_cons_succ]
  refine wpAnyH_take (i := 3) (v := ?_) (by rfl) (by kernel_rfl) (by kernel_rfl) (by kernel_rfl) (fun _ _ _ h => h) (Or.inl ⟨by rfl, ?_⟩) hHeld ?_
  rotate_left
  · intro w' hSw
    (try dsimp only at hSw)
    simp only [List.getElem_toArray, List.getElem_cons_zero, List.getElem_cons_succ]
    go_simp
    all_goals (try with_reducible rfl)
  try simp only [Act.put, List.setIfInBounds_toArray, List.set_cons_zero, List.set_cons_succ, List.getElem_toArray, List.getElem_cons_zero, List.getElem_cons_succ]
  refine wpAnyH_take (i := 4) (v := ?_) (by rfl) (by kernel_rfl) (by kernel_rfl) (by kernel_rfl) (fun _ _ _ h => h) (Or.inl ⟨by rfl, ?_⟩) hHeld ?_
  rotate_left
  · intro w' hSw
    (try dsimp only at hSw)
    simp only [List.getElem_toArray, List.getElem_cons_zero, List.getElem_cons_succ]
    go_simp
    all_goals (try with_reducible rfl)
  try simp only [Act.put, List.setIfInBounds_toArray, List.set_cons_zero, List.set_cons_succ, List.getElem_toArray, List.getElem_cons_zero, List.getElem_cons_succ]
  refine wpAnyH_ready (rs := [2]) (by kernel_rfl) (by simp) ?_
  refine AllReadyH.cons (by rfl) (fun K hK => ?_) AllReadyH.nil
  simp only [List.getElem_toArray, List.getElem_cons_zero, List.getElem_cons_succ]
  go_simp
  refine (VC3.out _ go M.out.knw (op1_bare (ks := [14, 1]) M.out.lay mem0 rfl (by omega))).mono ?_
  rintro e w14 ⟨rfl, q⟩
  have M := veil (M.out.keep q)
  clear q
  (try dsimp only)
  refine hK.out _ _ M.out.rng (fun hHeld => ?_)
  clear hK K
  try simp only [Act.put, List.setIfInBounds_toArray, List.set_cons_zero, List.set_cons_succ, List.getElem_toArray, List.getElem_cons_zero, List.getElem_cons_succ]
  refine wpAnyH_take (i := 5) (v := ?_) (by rfl) (by kernel_rfl) (by kernel_rfl) (by kernel_rfl) (fun _ _ _ h => h) (Or.inl ⟨by rfl, ?_⟩) hHeld ?_
  rotate_left
  · intro w' hSw
    (try dsimp only at hSw)
    simp only [List.getElem_toArray, List.getElem_cons_zero, List.getElem_cons_succ]
    go_simp
    all_goals (try with_reducible rfl)
  try simp only [Act.put, List.setIfInBounds_toArray, List.set_cons_zero, List.set_cons_succ, List.getElem_toArray, List.getElem_cons_zero, List.getElem_cons_succ]
  refine wpAnyH_take (i := 6) (v := _) (by rfl) (by kernel_rfl) (by kernel_rfl) (by kernel_rfl) (fun _ _ _ h => h) (yieldsIf_load_mid (by rfl) _ _ (by rfl) _ _ rfl (bv s) _ (fun _ h => h _ (List.mem_cons_of_mem _ (List.mem_cons_of_mem _ (List.mem_cons_of_mem _ List.mem_cons_self)))) Tryd.underlying23 rfl is.out) hHeld ?_
  try simp only [Act.put, List.setIfInBounds_toArray, List.set_cons_zero, List.set_cons_succ, List.getElem_toArray, List.getElem_cons_zero, List.getElem_cons_succ]
  refine wpAnyH_ready (rs := [7]) (by kernel_rfl) (by simp) ?_
  refine AllReadyH.cons (by rfl) (fun K hK => ?_) AllReadyH.nil
  simp only [List.getElem_toArray, List.getElem_cons_zero, List.getElem_cons_succ]
  go_simp
  refine (unspecified_any _ M.out.knw).mono ?_
  rintro e w15 ⟨rfl, q⟩
  have M := veil (M.out.keep q)
  clear q
  have E1 := VE1.out
  (try dsimp only)
  refine hK.out _ _ M.out.rng (fun hHeld => ?_)
  clear hK K
  try simp only [Act.put, List.setIfInBounds_toArray, List.set_cons_zero, List.set_cons_succ, List.getElem_toArray, List.getElem_cons_zero, List.getElem_cons_succ]
  refine wpAnyH_take (i := 8) (v := ?_) (by rfl) (by kernel_rfl) (by kernel_rfl) (by kernel_rfl) (fun _ _ _ h => h) (Or.inl ⟨by rfl, ?_⟩) hHeld ?_
  rotate_left
  · intro w' hSw
    (try dsimp only at hSw)
    simp only [List.getElem_toArray, List.getElem_cons_zero, List.getElem_cons_succ]
    go_simp
    all_goals (try with_reducible rfl)
  try simp only [Act.put, List.setIfInBounds_toArray, List.set_cons_zero, List.set_cons_succ, List.getElem_toArray, List.getElem_cons_zero, List.getElem_cons_succ]
  clear E1
  refine wpAnyH_take (i := 9) (v := ?_) (by rfl) (by kernel_rfl) (by kernel_rfl) (by kernel_rfl) (fun _ _ _ h => h) (Or.inl ⟨by rfl, ?_⟩) hHeld ?_
  rotate_left
  · intro w' hSw
    (try dsimp only at hSw)
    simp only [List.getElem_toArray, List.getElem_cons_zero, List.getElem_cons_succ]
    go_simp
    all_goals (try with_reducible rfl)
  try simp only [Act.put, List.setIfInBounds_toArray, List.set_cons_zero, List.set_cons_succ, List.getElem_toArray, List.getElem_cons_zero, List.getElem_cons_succ]
  refine wpAnyH_take (i := 10) (v := ?_) (by rfl) (by kernel_rfl) (by kernel_rfl) (by kernel_rfl) (fun _ _ _ h => h) (Or.inl ⟨by rfl, ?_⟩) hHeld ?_
  rotate_left
  · intro w' hSw
    (try dsimp only at hSw)
    simp only [List.getElem_toArray, List.getElem_cons_zero, List.getElem_cons_succ]
    go_simp
    all_goals (try with_reducible rfl)
  try simp only [Act.put, List.setIfInBounds_toArray, List.set_cons_zero, List.set_cons_succ, List.getElem_toArray, List.getElem_cons_zero, List.getElem_cons_succ]
  refine wpAnyH_take (i := 11) (v := ?_) (by rfl) (by kernel_rfl) (by kernel_rfl) (by kernel_rfl) (fun _ _ _ h => h) (Or.inl ⟨by rfl, ?_⟩) hHeld ?_
  rotate_left
  · intro w' hSw
    (try dsimp only at hSw)
    simp only [List.getElem_toArray, List.getElem_cons_zero, List.getElem_cons_succ]
    go_simp
    all_goals (try with_reducible rfl)
  try simp only [Act.put, List.setIfInBounds_toArray, List.set_cons_zero, List.set_cons_succ, List.getElem_toArray, List.getElem_cons_zero, List.getElem_cons_succ]
  refine wpAnyH_ready (rs := [12]) (by kernel_rfl) (by simp) ?_
  refine AllReadyH.cons (by rfl) (fun K hK => ?_) AllReadyH.nil
  simp only [List.getElem_toArray, List.getElem_cons_zero, List.getElem_cons_succ]
  go_simp
  refine (lives_true _ M.out.knw).mono ?_
  rintro e w16 ⟨rfl, q⟩
  have M := veil (M.out.keep q)
  clear q
  (try dsimp only)
  refine hK.out _ _ M.out.rng (fun hHeld => ?_)
  clear hK K
  try simp only [Act.put, List.setIfInBounds_toArray, List.set_cons_zero, List.set_cons_succ, List.getElem_toArray, List.getElem_cons_zero, List.getElem_cons_succ]
  refine wpAnyH_take (i := 13) (v := ?_) (by rfl) (by kernel_rfl) (by kernel_rfl) (by kernel_rfl) (fun _ _ _ h => h) (Or.inl ⟨by rfl, ?_⟩) hHeld ?_
  rotate_left
  · intro w' hSw
    (try dsimp only at hSw)
    simp only [List.getElem_toArray, List.getElem_cons_zero, List.getElem_cons_succ]
    go_simp
    all_goals (try with_reducible rfl)
  try simp only [Act.put, List.setIfInBounds_toArray, List.set_cons_zero, List.set_cons_succ, List.getElem_toArray, List.getElem_cons_zero, List.getElem_cons_succ]
  refine wpAnyH_take (i := 14) (v := ?_) (by rfl) (by kernel_rfl) (by kernel_rfl) (by kernel_rfl) (fun _ _ _ h => h) (Or.inl ⟨by rfl, ?_⟩) hHeld ?_
  rotate_left
  · intro w' hSw
    (try dsimp only at hSw)
    simp only [List.getElem_toArray, List.getElem_cons_zero, List.getElem_cons_succ]
    go_simp
    all_goals (try with_reducible rfl)
  try simp only [Act.put, List.setIfInBounds_toArray, List.set_cons_zero, List.set_cons_succ, List.getElem_toArray, List.getElem_cons_zero, List.getElem_cons_succ]
  refine wpAnyH_done (by kernel_rfl) ?_ _
  refine NoPanic.normal ?_
  clear hHeld
  go_wp2_with fail
  go_ret
  exact ⟨rfl, M.out.below⟩

theorem walk (t d s : List Int) (w : World) (ht : Ok t) (hd : Ok d) (hs : Ok s) (hk : Knw w) :
    Calls Tryd.prog 6 #[av t, av d, av s] w fun e w' => e = .returned (.bool true) ∧ Below w.heap.size w w' := by
  cases hm : mult t with
  | true => exact walkM t d s w ht hd hs hk hm
  | false =>
    cases hz : decide (d = sol t) with
    | true =>
      cases hn : nob s with
      | true => exact walkTT t d s w ht hd hs hk hm hz hn
      | false => exact walkTF t d s w ht hd hs hk hm hz hn
    | false =>
      cases hn : nob s with
      | true => exact walkFT t d s w ht hd hs hk hm hz hn
      | false => exact walkFF t d s w ht hd hs hk hm hz hn

theorem own : ownKnob Tryd.prog.godebug = none := by kernel_rfl
theorem readable : ∀ t ∈ Tryd.f6.params.toList, Tryd.prog.readableRec t = true ∧ t < Tryd.prog.types.size := by
  rw [Tryd.params6]
  intro t ht
  simp at ht
  subst ht
  exact ⟨by kernel_rfl, of_decide_eq_true (by kernel_rfl)⟩

set_option maxRecDepth 100000 in
theorem lifted (os : Os) (started : os.Started) (H : Type) (enc : TypeId × Value → H) :
    ReturnsInHanded {} Tryd.checked os 6 .any (fun w args => (Rows.checksDadSpec.pre enc Tryd.prog Tryd.f6 [] false w args ∧ laidMetH Tryd.prog laid1 w) ∧ sizedMet enc Tryd.prog Tryd.f6 (OpenSpec.ofChange Rows.checksDadSpec) false w args)
      (Rows.checksDadSpec.post enc Tryd.prog Tryd.f6 false true false false) := by
  refine returnsInHanded_of_change_and (C := Tryd.checked) (X := fun w _ => laidMetH Tryd.prog laid1 w) (fun _ _ _ hh h => h.of_heap hh) own started (by kernel_rfl) Tryd.func6
    (ChangeSpec.witness_shaped (enc := enc) (C := Tryd.checked) (os := os) (X := fun w _ => laidMetH Tryd.prog laid1 w) false (World.doorLaid Tryd.prog 400 os) #[.agg #[.int .u8 0, .int .u8 0, .int .u8 0, .int .u8 0, .int .u8 0, .int .u8 0, .int .u8 0, .int .u8 0, .int .u8 0, .int .u8 0, .int .u8 0, .int .u8 0, .int .u8 0, .int .u8 0, .int .u8 0, .int .u8 0], .agg #[.int .u8 0, .int .u8 0, .int .u8 0, .int .u8 0, .int .u8 0, .int .u8 0, .int .u8 0, .int .u8 0, .int .u8 0, .int .u8 0, .int .u8 0, .int .u8 0, .int .u8 0, .int .u8 0, .int .u8 0, .int .u8 0], .agg #[.int .u8 0, .int .u8 0, .int .u8 0, .int .u8 0, .int .u8 0, .int .u8 0, .int .u8 0, .int .u8 0, .int .u8 0, .int .u8 0, .int .u8 0, .int .u8 0, .int .u8 0, .int .u8 0, .int .u8 0, .int .u8 0]] 8 rfl (World.shaped_of_RefB (by kernel_rfl) (by kernel_rfl)) (by kernel_rfl) (by kernel_rfl) (by kernel_rfl) (door_met os _)) ?_
  intro W base args ds gs before hval0 hW _ _ hL _
  have hval : ∀ (j : Nat) t v, Tryd.f6.params[j]? = some t → args[j]? = some v → Value.okWide Tryd.prog W .any base t v := hval0
  have hW' := hW
  obtain ⟨p, q, hA0, hV, rfl, _, _⟩ := hW
  have hA : DataW.TrodAll enc Tryd.prog W 0 (fun _ => true) true Tryd.f6.params.toList args.toList ds p := hA0
  rw [Tryd.params6] at hA hval
  obtain ⟨v0, vs0, d0, ds0, p0, q0, hargs, rfl, rfl, h0, r0⟩ := trodAll_cons hA
  obtain ⟨v1, vs1, d1, ds1, p1, q1, rfl, rfl, rfl, h1, r1⟩ := trodAll_cons r0
  obtain ⟨v2, vs2, d2, ds2, p2, q2, rfl, rfl, rfl, h2, r2⟩ := trodAll_cons r1
  obtain ⟨rfl, rfl, rfl⟩ := trodAll_nil r2
  obtain rfl : args = #[v0, v1, v2] := by cases args; simp_all
  obtain ⟨rfl, rfl⟩ := trodVars_none hV
  have hk := knw_of_laid hL
  obtain ⟨xt, rfl, hxt⟩ := open_addr (hval 0 23 v0 rfl rfl) h0
  obtain ⟨xd, rfl, hxd⟩ := open_addr (hval 1 23 v1 rfl rfl) h1
  obtain ⟨xs, rfl, hxs⟩ := open_addr (hval 2 23 v2 rfl rfl) h2
  have hw : Calls Tryd.prog 6 #[av xt, av xd, av xs] W fun e w' => e = .returned (.bool true) ∧ Below W.heap.size W w' := by
    exact walk xt xd xs W hxt hxd hxs hk
  refine hw.mono fun e W' ⟨he, hb⟩ => ?_
  subst he
  exact ⟨_, rfl, law_post (by kernel_rfl) rfl rfl Tryd.underlying4 readable hW' rfl hb⟩

/-- ChecksDad: the row, as given -/
theorem row : Rows.ChecksDadSaid :=
  OpenClaim.holds_of_wide 6 Tryd.f6 rfl rfl rfl rfl rfl rfl rfl ⟨rfl, rfl, rfl, rfl, rfl⟩ rfl rfl rfl rfl rfl (by kernel_rfl) Tryd.func6 (by kernel_rfl)
    (of_decide_eq_true (by kernel_rfl)) (by unfold Func.isWrapper; first | (rw [if_pos (by decide +kernel)]; kernel_rfl) | (rw [if_neg (by decide +kernel)]; exact ⟨rfl, rfl⟩))
    (fun os started H enc _ => lifted os started H enc)

/-- ChecksDad: the tied card, as given -/
theorem holds : Rows.ChecksDadCardSaid :=
  Claim7.holds_tied_plain_at .later [] [.data] true Rows.checksDadCard.stood.harness false
    row (fun _ h => by cases h) (by kernel_rfl) (fun _ h => by cases h) checksDad_row_tie rfl ⟨rfl, rfl⟩ (by kernel_rfl) rfl
    (fun f fn hf hfn => by
      obtain rfl : f = 6 := Option.some.inj ((show Tryd.prog.funcNamed "sojourner/sojournerlaw12.ChecksDad" = some 6 by kernel_rfl).symm.trans hf) |>.symm
      obtain rfl : fn = Tryd.f6 := (Option.some.inj (Tryd.func6.symm.trans hfn)).symm
      exact ⟨by kernel_rfl, fun j t ht => by
        rw [Tryd.params6] at ht
        have hm : t ∈ [23] := by simpa using Array.mem_of_getElem? ht
        have hall : ([23].all fun u => !Tryd.prog.wantsStandIn u) = true := by kernel_rfl
        exact (show Tryd.prog.wantsStandIn t = false by simpa using List.all_eq_true.1 hall t hm)⟩)
    (by kernel_rfl)

#print axioms holds
end Go.Proofs.YthkiamkhignchaaDoor.checksDad
