/-
  A list of addresses and its twin; a twin that was left as it was made; lists of addresses that are the same.
  Conditions: a list that reads as addresses, at most 1000000.
-/
import Derived.Test.YthkiamkhignchaaDoorOpoAd
import Derived.Test.YthkiamkhignchaaDoorSameB
import Derived.Test.YthkiamkhignchaaDoorOpoT
import Derived.Deep.RegionHeld3
import Derived.BigRegion
namespace Go.Proofs.YthkiamkhignchaaDoor.Oz
set_option maxRecDepth 100000
open Go.RowKit Ops

theorem flat_set : ∀ {l : List (List Int)} {i : Nat} {z : List Int} (_ : i < l.length) (_ : ∀ x ∈ l, x.length = 16) (_ : z.length = 16), (bv l.flatten).take (i * 16) ++ bv z ++ (bv l.flatten).drop (i * 16 + (bv z).length) = bv (l.set i z).flatten
  | [], i, z, h, _, _ => by simp at h
  | x :: l, 0, z, _, h16, hz => by
    have hx := h16 x (by simp)
    have e : (bv (x :: l).flatten) = bv x ++ bv l.flatten := by simp [bv]
    rw [e, List.set_cons_zero, bv_length, hz]
    simp only [Nat.zero_mul, List.take_zero, List.nil_append, Nat.zero_add]
    rw [List.drop_left' (by rw [bv_length, hx])]
    simp [bv]
  | x :: l, i + 1, z, hi, h16, hz => by
    have hx := h16 x (by simp)
    have ih := flat_set (l := l) (i := i) (z := z) (by simpa using hi) (fun y hy => h16 y (by simp [hy])) hz
    have e : (bv (x :: l).flatten) = bv x ++ bv l.flatten := by simp [bv]
    have e2 : bv (x :: l.set i z).flatten = bv x ++ bv (l.set i z).flatten := by simp [bv]
    have hxl : (bv x).length = 16 := by rw [bv_length, hx]
    rw [List.set_cons_succ, e, e2, ← ih, show (i + 1) * 16 = (bv x).length + i * 16 by omega, List.take_length_add_append]
    rw [show (bv x).length + i * 16 + (bv z).length = (bv x).length + (i * 16 + (bv z).length) by omega, List.drop_length_add_append]
    simp
theorem flat_part {l : List (List Int)} {i : Nat} {z : List Int} (h : l[i]? = some z) (h16 : ∀ x ∈ l, x.length = 16) : Part (bv l.flatten) (i * 16) (bv z) := by
  have hi := (List.getElem?_eq_some_iff.1 h).1
  have hz := h16 z (List.mem_of_getElem? h)
  have e := flat_set hi h16 hz
  have e2 : l.set i z = l := set_at_same h
  rw [e2] at e
  rw [← e, List.append_assoc]
  refine part_mid _ _ _ ?_
  rw [List.length_take, bv_length, flat16 h16]
  omega
/-- a list of addresses in a block -/
theorem reads_flat {w0 w : World} {L : List Blk} {g : Nat} {t : TypeId} {l : List (List Int)} (h : Lay w0 w L) (hm : (g, t, bv l.flatten) ∈ L) (h16 : ∀ x ∈ l, x.length = 16) (m : Nat) : ReadsA w (some ⟨g, 0, none⟩) (l.take m) := fun i zs hi => by
  have hi2 : l[i]? = some zs := by
    rw [List.getElem?_take] at hi
    split at hi
    · exact hi
    · cases hi
  refine ⟨h16 zs (List.mem_of_getElem? hi2), _, rfl, ?_⟩
  rw [show (⟨g, 0, none⟩ : Addr).add (i * 16) = ⟨g, i * 16, none⟩ by unfold Addr.add; split <;> simp_all]
  exact rd_row (h.at hm) (fun j hj => flat_part hi2 h16 j _ (bv_get _ j hj))
def za16 : List Int := List.replicate 16 0
/-- a twin as far as the i-th -/
def upA (tl : List (List Int)) (n i : Nat) : List (List Int) := tl.take i ++ List.replicate (n - i) za16
theorem upA_len {tl : List (List Int)} {n i : Nat} (hl : tl.length = n) (hi : i ≤ n) : (upA tl n i).length = n := by simp [upA]; omega
theorem upA_16 {tl : List (List Int)} (h : ∀ x ∈ tl, x.length = 16) (n i : Nat) : ∀ x ∈ upA tl n i, x.length = 16 := fun x hx => by
  rcases List.mem_append.1 hx with hx | hx
  · exact h x (List.mem_of_mem_take hx)
  · rw [List.eq_of_mem_replicate hx]
    rfl
theorem upA_set {tl : List (List Int)} {n i : Nat} {z : List Int} (hl : tl.length = n) (hz : tl[i]? = some z) : (upA tl n i).set i z = upA tl n (i + 1) := by
  have hi := (List.getElem?_eq_some_iff.1 hz).1
  have e : (tl.take i).length = i := by rw [List.length_take]; omega
  unfold upA
  rw [List.set_append_right _ _ (by omega), e, Nat.sub_self, show n - i = (n - (i + 1)) + 1 by omega, List.replicate_succ, List.set_cons_zero, List.take_add_one, hz]
  simp
theorem size16A : (Tryd.prog.info? 23).map (·.size) = some 16 := by kernel_rfl

set_option linter.unusedSimpArgs false in
set_option maxHeartbeats 8000000 in
theorem twinA_any (A : Option Addr) (n c : Nat) (az : List (List Int)) (st : List Int) (w : World) (hst : st.length = 16) (hl : az.length = n) (hn : n ≤ 900000) (ha : ReadsA w A az) :
    Calls Tryd.prog 37 #[.slice A n c, .agg (bv st).toArray] w fun e w' => ∃ g, e = .returned (.slice (some ⟨g, 0, none⟩) n (n + 4)) ∧ Lay w w' [(g, 23, bv (az ++ List.replicate 4 st).flatten)] := by
  have Y0 := (Lay.begin w).new (bv st) 23 (g := w.heap.size) rfl
  generalize hw0 : w.alloc (.cells (bv st).toArray 23) = w0 at *
  have hmk := run_make_addr (n + 4) (by omega) w0
  simp only [Int.natCast_add, Int.cast_ofNat_Int] at hmk
  have Y1 := Y0.new (bv (List.replicate (16 * (n + 4)) 0)) 23 (g := w0.heap.size) rfl
  obtain ⟨tl, htl⟩ : ∃ tl, az ++ List.replicate 4 st = tl := ⟨_, rfl⟩
  have htn : tl.length = n + 4 := by rw [← htl]; simp [hl]
  have haz : ∀ x ∈ az, x.length = 16 := fun x hx => by
    obtain ⟨i, hi⟩ := List.getElem?_of_mem hx
    exact (ha i x hi).1
  have ht16 : ∀ x ∈ tl, x.length = 16 := fun x hx => by
    rw [← htl] at hx
    rcases List.mem_append.1 hx with hx | hx
    · exact haz x hx
    · rw [List.eq_of_mem_replicate hx]; exact hst
  have hup : bv (List.replicate (16 * (n + 4)) 0) = bv (upA tl (n + 4) 0).flatten := by
    unfold upA za16
    simp only [List.take_zero, List.nil_append, Nat.sub_zero, List.flatten_replicate_replicate]
    rw [Nat.mul_comm]
  have Hlo : Hid (∀ (i : Nat) z, az[i]? = some z → tl[i]? = some z) := veil (fun i z hz => by
    rw [← htl, List.getElem?_append_left (List.getElem?_eq_some_iff.1 hz).1]; exact hz)
  have Hhi : Hid (∀ i : Nat, n ≤ i → i < n + 4 → tl[i]? = some st) := veil (fun i h1 h2 => by
    rw [← htl, List.getElem?_append_right (by omega), List.getElem?_replicate, if_pos (by omega)])
  rw [hup] at Y1
  rw [hup] at hmk
  have VY := veil Y1
  have HA := veil ha
  have HL := veil hl
  have HT := veil htn
  have H16 := veil ht16
  have HS := veil hst
  have in16 : (n : Int) ≤ 1000000 := by omega
  obtain ⟨g0, hg0⟩ : ∃ x, w.heap.size = x := ⟨_, rfl⟩
  rw [hg0] at VY
  obtain ⟨g1, hg1⟩ : ∃ x, w0.heap.size = x := ⟨_, rfl⟩
  rw [hg1] at VY hmk
  rw [htl]
  clear Y0 Y1 ha hl htn ht16 hst haz hup
  go_enter Tryd.func37, Tryd.ntmps37
  go_wp2_with fail
  clear hw0 hg0 hmk hg1
  go_loopw [6] (fun s6 wr => ∃ i : Nat, i ≤ n + 4 ∧ s6 = .int .i64 i ∧ Hid (Lay w wr [(g1, 23, bv (upA tl (n + 4) i).flatten), (g0, 23, bv st)])) (fun s6 _ => n + 4 - (intOf s6).toNat)
  case atStart => exact ⟨0, Nat.zero_le _, rfl, VY⟩
  case round =>
    rename World => wr
    obtain ⟨i, hi, rfl, VR⟩ := hrel
    clear VY
    by_cases hlt : i < n + 4
    · have ij : (i : Int) < (n : Int) + 4 := by omega
      have L1 := veil (VR.out.load (P := Tryd.prog) (ty := 23) (vs := bv st) mem1 (part_all _) Tryd.underlying23 rfl (by rw [bv_length, HS.out]; exact size16A))
      have hul := upA_len HT.out hi
      have hu16 := upA_16 H16.out (n + 4) i
      have T1 := veil (store_part (P := Tryd.prog) (o := i * 16) (ty := 23) (vs := bv st) (VR.out.at mem0) (by rw [bv_length, bv_length, HS.out, flat16 hu16, hul]; omega) (by rw [bv_length, HS.out]; exact size16A) (bv_one _))
      rw [flat_set (by rw [hul]; exact hlt) hu16 HS.out] at T1
      have V1 := VR.out.put 0 rfl (bv ((upA tl (n + 4) i).set i st).flatten)
      simp only [List.set_cons_zero] at V1
      generalize wr.setRow g1 (bv ((upA tl (n + 4) i).set i st).flatten).toArray = w2 at T1 V1
      by_cases hin : i < n
      · have ijn : (i : Int) < (n : Int) := by omega
        obtain ⟨z, hz⟩ : ∃ z, az[i]? = some z := ⟨_, List.getElem?_eq_getElem (by rw [HL.out]; exact hin)⟩
        obtain ⟨hz16, a, rfl, r1⟩ := HA.out i z hz
        have L2 := veil (load_addr (r1.keep V1.below) hz16)
        have hs16 : ∀ x ∈ (upA tl (n + 4) i).set i st, x.length = 16 := fun x hx => (List.mem_or_eq_of_mem_set hx).elim (hu16 x) (fun e => by rw [e]; exact HS.out)
        have T2 := veil (store_part (P := Tryd.prog) (o := i * 16) (ty := 23) (vs := bv z) (V1.at mem0) (by rw [bv_length, bv_length, hz16, flat16 hs16, List.length_set, hul]; omega) (by rw [bv_length, hz16]; exact size16A) (bv_one _))
        rw [flat_set (by rw [List.length_set, hul]; exact hlt) hs16 hz16, List.set_set, upA_set HT.out (Hlo.out i z hz)] at T2
        have V2 := V1.put 0 rfl (bv (upA tl (n + 4) (i + 1)).flatten)
        simp only [List.set_cons_zero] at V2
        have VV := veil V2
        clear VR V1 V2 hul hu16 hs16 hz r1 hz16
        go_wp2_with (first
          | (refine wpList_load_of rfl (.tmp 3) rfl rfl L1.out ?_)
          | (refine wpList_store_of rfl _ _ rfl rfl rfl T1.out ?_)
          | (refine wpList_load_of rfl (.tmp 29) rfl rfl L2.out ?_)
          | (refine wpList_store_of rfl _ _ rfl rfl rfl T2.out ?_))
        go_roundw
        case rel => exact ⟨i + 1, by omega, by go_num, VV⟩
        case measure => simp [intOf]; omega
      · have ijn : ¬ (i : Int) < (n : Int) := by omega
        rw [upA_set HT.out (Hhi.out i (by omega) hlt)] at V1
        have VV := veil V1
        clear VR V1 hul hu16
        go_wp2_with (first
          | (refine wpList_load_of rfl (.tmp 3) rfl rfl L1.out ?_)
          | (refine wpList_store_of rfl _ _ rfl rfl rfl T1.out ?_))
        go_roundw
        case rel => exact ⟨i + 1, by omega, by go_num, VV⟩
        case measure => simp [intOf]; omega
    · obtain rfl : i = n + 4 := by omega
      have ij : ¬ ((n + 4 : Nat) : Int) < (n : Int) + 4 := by omega
      have e : upA tl (n + 4) (n + 4) = tl := by
        unfold upA
        rw [List.take_of_length_le (by rw [HT.out]; omega), Nat.sub_self, List.replicate_zero, List.append_nil]
      rw [e] at VR
      clear e
      go_wp2_with fail
      go_ret
      exact ⟨g1, rfl, VR.out.sub (List.Sublist.cons_cons _ (List.nil_sublist _))⟩

def oddV : List Int := [1, 2, 3, 0, 0, 0, 0, 0, 0, 0, 0, 0, 0, 0, 0, 201]
set_option linter.unusedSimpArgs false in
set_option maxHeartbeats 4000000 in
theorem odd_any (w : World) : Calls Tryd.prog 38 #[] w fun e w' => e = .returned (.agg (bv oddV).toArray) ∧ Below w.heap.size w w' := by
  have Y := (Lay.begin w).new (bv oddV) 23 (g := w.heap.size) rfl
  have VQ := veil Y.below
  have HR := veil (Y.range mem0 (part_all _))
  clear Y
  go_enter Tryd.func38, Tryd.ntmps38
  go_wp2_with fail
  refine bodyPost_ret (ret_row rfl rfl HR.out Tryd.underlying23 rfl size16A) rfl ?_
  exact ⟨rfl, VQ.out⟩

theorem twinAddrs_any (A : Option Addr) (n c : Nat) (az : List (List Int)) (w : World) (hl : az.length = n) (hn : n ≤ 900000) (ha : ReadsA w A az) :
    Calls Tryd.prog 23 #[.slice A n c] w fun e w' => ∃ g, e = .returned (.slice (some ⟨g, 0, none⟩) n (n + 4)) ∧ Lay w w' [(g, 23, bv (az ++ List.replicate 4 oddV).flatten)] := by
  have K0 := veil (odd_any w)
  have HK := veil (fun v (hv : Below w.heap.size w v) => twinA_any A n c az oddV v rfl hl hn (ha.keep hv))
  clear hl hn ha
  go_enter Tryd.func23, Tryd.ntmps23
  go_wp2_with fail
  refine (K0.out).mono ?_
  rintro e w1 ⟨rfl, q1⟩
  have K1 := veil (HK.out w1 q1)
  have VQ := veil q1
  clear K0 HK q1
  go_wp2_with fail
  refine (K1.out).mono ?_
  rintro e w2 ⟨g, rfl, Y⟩
  have VY := veil Y
  clear K1 Y
  go_wp2_with fail
  go_ret
  exact ⟨g, rfl, by have := ((Lay.begin w).keep VQ.out).join VY.out; simpa using this⟩

/-- a load that a condition grants, in a region that draws its order -/
theorem yieldsIf_load_of {P : Program} {ops : Array Oper} {S : World → Prop} {op : Oper} {a : Act} {v : Value} (hw : Region.wanted op (yielded ops a.tmps) = true) (t : TypeId) (x : Operand) (ho : op.op = .load t x) (q : Value) (hx : a.eval x = q)
    (hrun : ∀ w, S w → (Instr.loadAt t q).run P w = .ok v w) : YieldsIf P ops S op v a :=
  .inl ⟨hw, fun w hS => by
    unfold execOp
    simp only [ho, hx, hrun w hS, Sem.run_bind, Sem.run_pure, Result.andThen_ok]⟩

set_option linter.unusedSimpArgs false in
set_option maxHeartbeats 4000000 in
theorem sameA_true (A B : Option Addr) (n c d : Nat) (az : List (List Int)) (w : World) (hl : az.length = n) (hn : n ≤ 1000000) (ha : ReadsA w A az) (hb : ReadsA w B az) :
    Calls Tryd.prog 52 #[.slice A n c, .slice B n d] w fun e w' => e = .returned (.bool true) ∧ Below w.heap.size w w' := by
  have HA := veil ha
  have HB := veil hb
  have HL := veil hl
  have in16 : (n : Int) ≤ 1000000 := by omega
  clear ha hb hl
  go_enter Tryd.func52, Tryd.ntmps52
  go_wp2_with fail
  go_loopw [5] (fun s5 wr => ∃ i : Nat, i ≤ n ∧ s5 = .int .i64 i ∧ Hid (Below w.heap.size w wr)) (fun s5 _ => n - (intOf s5).toNat)
  case atStart => exact ⟨0, Nat.zero_le _, rfl, veil (Below.refl _ _)⟩
  case round =>
    rename World => wr
    obtain ⟨i, hi, rfl, VR⟩ := hrel
    by_cases hlt : i < n
    · have ij : (i : Int) < (n : Int) := by omega
      obtain ⟨z, hz⟩ : ∃ z, az[i]? = some z := ⟨_, List.getElem?_eq_getElem (by rw [HL.out]; exact hlt)⟩
      obtain ⟨hz16, a, rfl, r1⟩ := HA.out i z hz
      obtain ⟨_, b, rfl, r2⟩ := HB.out i z hz
      have N1 : ∀ u, (binOp .neq 23 (.agg (bv z).toArray) (.agg (bv z).toArray)).run Tryd.prog u = .ok (.bool false) u := fun u => by simpa using arr_neq (t := 23) Tryd.underlying23 u hz16 hz16 (z := true) (by simp)
      have HZ16 := veil hz16
      have q1 := still_below VR.out
      have VE := veil q1
      have C0 := veil (show Rd wr.drew (some (a.add (i * 16))) z ∧ Rd wr.drew (some (b.add (i * 16))) z from ⟨r1.keep q1, r2.keep q1⟩)
      clear r1 r2 hz hz16 VR q1
      go_wp2_with fail
      -- same
      refine wp_region_noPanic ?_
      refine wp_region_held_drew (S := fun w' => Rd w' (some (a.add (i * 16))) z ∧ Rd w' (some (b.add (i * 16))) z) (by kernel_rfl) C0.out (fun hHeld => ?_)
      refine wpAnyH_take (i := 0) (v := ?_) (by rfl) (by kernel_rfl) (by kernel_rfl) (by kernel_rfl) (fun _ _ _ h => h) (Or.inl ⟨by rfl, ?_⟩) hHeld ?_
      rotate_left
      · intro w' hSw
        (try dsimp only at hSw)
        simp only [List.getElem_toArray, List.getElem_cons_zero, List.getElem_cons_succ]
        go_simp
        all_goals (try with_reducible rfl)
      try simp only [Act.put, List.setIfInBounds_toArray, List.set_cons_zero, List.set_cons_succ, List.getElem_toArray, List.getElem_cons_zero, List.getElem_cons_succ]
      refine wpAnyH_take (i := 1) (v := ?_) (by rfl) (by kernel_rfl) (by kernel_rfl) (by kernel_rfl) (fun _ _ _ h => h) (Or.inl ⟨by rfl, ?_⟩) hHeld ?_
      rotate_left
      · intro w' hSw
        (try dsimp only at hSw)
        simp only [List.getElem_toArray, List.getElem_cons_zero, List.getElem_cons_succ]
        go_simp
        all_goals (try with_reducible rfl)
      try simp only [Act.put, List.setIfInBounds_toArray, List.set_cons_zero, List.set_cons_succ, List.getElem_toArray, List.getElem_cons_zero, List.getElem_cons_succ]
      refine wpAnyH_take (i := 2) (v := ?_) (by rfl) (by kernel_rfl) (by kernel_rfl) (by kernel_rfl) (fun _ _ _ h => h) (Or.inl ⟨by rfl, ?_⟩) hHeld ?_
      rotate_left
      · intro w' hSw
        (try dsimp only at hSw)
        simp only [List.getElem_toArray, List.getElem_cons_zero, List.getElem_cons_succ]
        go_simp
        all_goals (try with_reducible rfl)
      try simp only [Act.put, List.setIfInBounds_toArray, List.set_cons_zero, List.set_cons_succ, List.getElem_toArray, List.getElem_cons_zero, List.getElem_cons_succ]
      refine wpAnyH_take (i := 3) (v := _) (by rfl) (by kernel_rfl) (by kernel_rfl) (by kernel_rfl) (fun _ _ _ h => h) (yieldsIf_load_of (by rfl) _ _ rfl _ rfl (fun u h => load_addr h.1 HZ16.out)) hHeld ?_
      try simp only [Act.put, List.setIfInBounds_toArray, List.set_cons_zero, List.set_cons_succ, List.getElem_toArray, List.getElem_cons_zero, List.getElem_cons_succ]
      refine wpAnyH_take (i := 4) (v := ?_) (by rfl) (by kernel_rfl) (by kernel_rfl) (by kernel_rfl) (fun _ _ _ h => h) (Or.inl ⟨by rfl, ?_⟩) hHeld ?_
      rotate_left
      · intro w' hSw
        (try dsimp only at hSw)
        simp only [List.getElem_toArray, List.getElem_cons_zero, List.getElem_cons_succ]
        go_simp
        all_goals (try with_reducible rfl)
      try simp only [Act.put, List.setIfInBounds_toArray, List.set_cons_zero, List.set_cons_succ, List.getElem_toArray, List.getElem_cons_zero, List.getElem_cons_succ]
      refine wpAnyH_take (i := 5) (v := ?_) (by rfl) (by kernel_rfl) (by kernel_rfl) (by kernel_rfl) (fun _ _ _ h => h) (Or.inl ⟨by rfl, ?_⟩) hHeld ?_
      rotate_left
      · intro w' hSw
        (try dsimp only at hSw)
        simp only [List.getElem_toArray, List.getElem_cons_zero, List.getElem_cons_succ]
        go_simp
        all_goals (try with_reducible rfl)
      try simp only [Act.put, List.setIfInBounds_toArray, List.set_cons_zero, List.set_cons_succ, List.getElem_toArray, List.getElem_cons_zero, List.getElem_cons_succ]
      refine wpAnyH_take (i := 6) (v := ?_) (by rfl) (by kernel_rfl) (by kernel_rfl) (by kernel_rfl) (fun _ _ _ h => h) (Or.inl ⟨by rfl, ?_⟩) hHeld ?_
      rotate_left
      · intro w' hSw
        (try dsimp only at hSw)
        simp only [List.getElem_toArray, List.getElem_cons_zero, List.getElem_cons_succ]
        go_simp
        all_goals (try with_reducible rfl)
      try simp only [Act.put, List.setIfInBounds_toArray, List.set_cons_zero, List.set_cons_succ, List.getElem_toArray, List.getElem_cons_zero, List.getElem_cons_succ]
      refine wpAnyH_take (i := 7) (v := _) (by rfl) (by kernel_rfl) (by kernel_rfl) (by kernel_rfl) (fun _ _ _ h => h) (yieldsIf_load_of (by rfl) _ _ rfl _ rfl (fun u h => load_addr h.2 HZ16.out)) hHeld ?_
      try simp only [Act.put, List.setIfInBounds_toArray, List.set_cons_zero, List.set_cons_succ, List.getElem_toArray, List.getElem_cons_zero, List.getElem_cons_succ]
      refine wpAnyH_take (i := 8) (v := ?_) (by rfl) (by kernel_rfl) (by kernel_rfl) (by kernel_rfl) (fun _ _ _ h => h) (Or.inl ⟨by rfl, ?_⟩) hHeld ?_
      rotate_left
      · intro w' hSw
        (try dsimp only at hSw)
        simp only [List.getElem_toArray, List.getElem_cons_zero, List.getElem_cons_succ]
        go_simp
        all_goals (try with_reducible rfl)
      try simp only [Act.put, List.setIfInBounds_toArray, List.set_cons_zero, List.set_cons_succ, List.getElem_toArray, List.getElem_cons_zero, List.getElem_cons_succ]
      refine wpAnyH_done (by kernel_rfl) ?_ _
      refine NoPanic.normal ?_
      clear hHeld
      -- end same
      clear C0 N1
      generalize wr.drew = w2 at *
      go_wp2_with fail
      go_roundw
      case rel => exact ⟨i + 1, by omega, by go_num, VE⟩
      case measure => simp [intOf]; omega
    · have ij : ¬ (i : Int) < (n : Int) := by omega
      go_wp2_with fail
      go_ret
      exact ⟨rfl, VR.out⟩

set_option linter.unusedSimpArgs false in
set_option maxHeartbeats 4000000 in
theorem leftA_true (g : Nat) (B : Option Addr) (n d : Nat) (az : List (List Int)) (st : List Int) (w0 w : World) (L : List Blk) (hst : st.length = 16) (hl : az.length = n) (hn : n ≤ 900000) (hb : ReadsA w B az) (h : Lay w0 w L) (hm : (g, 23, bv (az ++ List.replicate 4 st).flatten) ∈ L) :
    Calls Tryd.prog 54 #[.slice (some ⟨g, 0, none⟩) n (n + 4), .slice B n d, .agg (bv st).toArray] w fun e w' => e = .returned (.bool true) ∧ Below w.heap.size w w' := by
  have haz : ∀ x ∈ az, x.length = 16 := fun x hx => by
    obtain ⟨i, hi⟩ := List.getElem?_of_mem hx
    exact (hb i x hi).1
  have h16 : ∀ x ∈ az ++ List.replicate 4 st, x.length = 16 := fun x hx => by
    rcases List.mem_append.1 hx with hx | hx
    · exact haz x hx
    · rw [List.eq_of_mem_replicate hx]; exact hst
  have Y5 := (Lay.begin w).new (bv st) 23 (g := w.heap.size) rfl
  have q5 := Y5.below
  have hr := reads_flat h hm h16 n
  rw [List.take_left' (by rw [hl])] at hr
  have HS := veil hst
  generalize hw5 : w.alloc (.cells (bv st).toArray 23) = w5 at *
  obtain ⟨g5, hg5⟩ : ∃ x, w.heap.size = x := ⟨_, rfl⟩
  have SA := veil (sameA_true (some ⟨g, 0, none⟩) B n (n + 4) d az w5 hl (by omega) (hr.keep q5) (hb.keep q5))
  have HP : Hid (∀ j, j < 4 → Rd w (some ⟨g, n * 16 + j * 16, none⟩) st) := veil (fun j hj => by
    have hi : (az ++ List.replicate 4 st)[n + j]? = some st := by rw [List.getElem?_append_right (by omega), List.getElem?_replicate, if_pos (by omega)]
    rw [show n * 16 + j * 16 = (n + j) * 16 by omega]
    exact rd_row (h.at hm) (fun k hk => flat_part hi h16 k _ (bv_get _ k hk)))
  have R5 : Rd w5 (some ⟨w.heap.size, 0, none⟩) st := rd_row (Y5.at mem0) (fun j hj => by rw [Nat.zero_add]; exact bv_get _ j hj)
  rw [hg5] at R5
  have VR5 := veil R5
  have VQ5 := veil q5
  have in16 : (n : Int) ≤ 1000000 := by omega
  have N1 : ∀ u, (binOp .neq 23 (.agg (bv st).toArray) (.agg (bv st).toArray)).run Tryd.prog u = .ok (.bool false) u := fun u => by simpa using arr_neq (t := 23) Tryd.underlying23 u hst hst (z := true) (by simp)
  clear hst hl hb h hm haz h16 Y5 q5 hr R5
  go_enter Tryd.func54, Tryd.ntmps54
  go_wp2_with fail
  clear hw5
  refine (SA.out).mono ?_
  rintro e w6 ⟨rfl, q6⟩
  have VB := veil (VQ5.out.trans (q6.mono VQ5.out.size))
  have VC := veil q6
  clear SA q6 hg5
  go_wp2_with fail
  go_loopw [8] (fun s8 wr => ∃ j : Nat, j ≤ 4 ∧ s8 = .int .i64 j ∧ Hid (Below w.heap.size w wr ∧ Below w5.heap.size w5 wr)) (fun s8 _ => 4 - (intOf s8).toNat)
  case atStart => exact ⟨0, Nat.zero_le _, rfl, veil ⟨VB.out, VC.out⟩⟩
  case round =>
    rename World => wr
    obtain ⟨j, hj, rfl, VR⟩ := hrel
    clear VB VC
    by_cases hlt : j < 4
    · have ij : (j : Int) < 4 := by omega
      have VE := veil (And.intro (still_below VR.out.1) (still_below VR.out.2))
      have C0 := veil (show Rd wr.drew (some ⟨g, n * 16 + j * 16, none⟩) st ∧ Rd wr.drew (some ⟨g5, 0, none⟩) st from ⟨(HP.out j hlt).keep VE.out.1, VR5.out.keep VE.out.2⟩)
      clear VR
      go_wp2_with fail
      -- left
      refine wp_region_noPanic ?_
      refine wp_region_held_drew (S := fun w' => Rd w' (some ⟨g, n * 16 + j * 16, none⟩) st ∧ Rd w' (some ⟨g5, 0, none⟩) st) (by kernel_rfl) C0.out (fun hHeld => ?_)
      refine wpAnyH_take (i := 0) (v := ?_) (by rfl) (by kernel_rfl) (by kernel_rfl) (by kernel_rfl) (fun _ _ _ h => h) (Or.inl ⟨by rfl, ?_⟩) hHeld ?_
      rotate_left
      · intro w' hSw
        (try dsimp only at hSw)
        simp only [List.getElem_toArray, List.getElem_cons_zero, List.getElem_cons_succ]
        go_simp
        all_goals (try with_reducible rfl)
      try simp only [Act.put, List.setIfInBounds_toArray, List.set_cons_zero, List.set_cons_succ, List.getElem_toArray, List.getElem_cons_zero, List.getElem_cons_succ]
      refine wpAnyH_take (i := 1) (v := ?_) (by rfl) (by kernel_rfl) (by kernel_rfl) (by kernel_rfl) (fun _ _ _ h => h) (Or.inl ⟨by rfl, ?_⟩) hHeld ?_
      rotate_left
      · intro w' hSw
        (try dsimp only at hSw)
        simp only [List.getElem_toArray, List.getElem_cons_zero, List.getElem_cons_succ]
        go_simp
        all_goals (try with_reducible rfl)
      try simp only [Act.put, List.setIfInBounds_toArray, List.set_cons_zero, List.set_cons_succ, List.getElem_toArray, List.getElem_cons_zero, List.getElem_cons_succ]
      refine wpAnyH_take (i := 2) (v := ?_) (by rfl) (by kernel_rfl) (by kernel_rfl) (by kernel_rfl) (fun _ _ _ h => h) (Or.inl ⟨by rfl, ?_⟩) hHeld ?_
      rotate_left
      · intro w' hSw
        (try dsimp only at hSw)
        simp only [List.getElem_toArray, List.getElem_cons_zero, List.getElem_cons_succ]
        go_simp
        all_goals (try with_reducible rfl)
      try simp only [Act.put, List.setIfInBounds_toArray, List.set_cons_zero, List.set_cons_succ, List.getElem_toArray, List.getElem_cons_zero, List.getElem_cons_succ]
      refine wpAnyH_take (i := 3) (v := _) (by rfl) (by kernel_rfl) (by kernel_rfl) (by kernel_rfl) (fun _ _ _ h => h) (yieldsIf_load_of (by rfl) _ _ rfl _ rfl (fun u h => load_addr h.1 HS.out)) hHeld ?_
      try simp only [Act.put, List.setIfInBounds_toArray, List.set_cons_zero, List.set_cons_succ, List.getElem_toArray, List.getElem_cons_zero, List.getElem_cons_succ]
      refine wpAnyH_take (i := 4) (v := _) (by rfl) (by kernel_rfl) (by kernel_rfl) (by kernel_rfl) (fun _ _ _ h => h) (yieldsIf_load_of (by rfl) _ _ rfl _ rfl (fun u h => load_addr h.2 HS.out)) hHeld ?_
      try simp only [Act.put, List.setIfInBounds_toArray, List.set_cons_zero, List.set_cons_succ, List.getElem_toArray, List.getElem_cons_zero, List.getElem_cons_succ]
      refine wpAnyH_take (i := 5) (v := ?_) (by rfl) (by kernel_rfl) (by kernel_rfl) (by kernel_rfl) (fun _ _ _ h => h) (Or.inl ⟨by rfl, ?_⟩) hHeld ?_
      rotate_left
      · intro w' hSw
        (try dsimp only at hSw)
        simp only [List.getElem_toArray, List.getElem_cons_zero, List.getElem_cons_succ]
        go_simp
        all_goals (try with_reducible rfl)
      try simp only [Act.put, List.setIfInBounds_toArray, List.set_cons_zero, List.set_cons_succ, List.getElem_toArray, List.getElem_cons_zero, List.getElem_cons_succ]
      refine wpAnyH_done (by kernel_rfl) ?_ _
      refine NoPanic.normal ?_
      clear hHeld
      -- end left
      clear C0
      generalize wr.drew = w2 at *
      go_wp2_with fail
      go_roundw
      case rel => exact ⟨j + 1, by omega, by go_num, VE⟩
      case measure => simp [intOf]; omega
    · have ij : ¬ (j : Int) < 4 := by omega
      go_wp2_with fail
      go_ret
      exact ⟨rfl, VR.out.1⟩

theorem leftAddrs_true (g : Nat) (B : Option Addr) (n d : Nat) (az : List (List Int)) (w0 w : World) (L : List Blk) (hl : az.length = n) (hn : n ≤ 900000) (hb : ReadsA w B az) (h : Lay w0 w L) (hm : (g, 23, bv (az ++ List.replicate 4 oddV).flatten) ∈ L) :
    Calls Tryd.prog 34 #[.slice (some ⟨g, 0, none⟩) n (n + 4), .slice B n d] w fun e w' => e = .returned (.bool true) ∧ Below w.heap.size w w' := by
  have K0 := veil (odd_any w)
  have HK := veil (fun v (hv : Below w.heap.size w v) => leftA_true g B n d az oddV w0 v L rfl hl hn (hb.keep hv) (h.keep hv) hm)
  clear hl hn hb h hm
  go_enter Tryd.func34, Tryd.ntmps34
  go_wp2_with fail
  refine (K0.out).mono ?_
  rintro e w1 ⟨rfl, q1⟩
  have K1 := veil (HK.out w1 q1)
  have VQ := veil q1
  clear K0 HK q1
  go_wp2_with fail
  refine (K1.out).mono ?_
  rintro e w2 ⟨rfl, q2⟩
  clear K1
  go_wp2_with fail
  go_ret
  exact ⟨rfl, VQ.out.trans (q2.mono VQ.out.size)⟩

end Go.Proofs.YthkiamkhignchaaDoor.Oz
