/-
  Options' bytes, by the code: whatever options there are.
  Conditions: a list that reads as options; at most 16000000 bytes all in all.
-/
import Derived.Test.YtdebifkefpclaaaDoorOpoR
import Derived.StillTailTactics
namespace Go.Proofs.YtdebifkefpclaaaDoor.Oz
set_option maxRecDepth 100000
open Go.RowKit Ops

/-- how many eights n bytes of data take -/
def e8 (n : Nat) : Nat := min ((n + 9) / 8) 255
theorem e8_pos (n : Nat) : 1 ≤ e8 n ∧ e8 n ≤ 255 := by unfold e8; omega
/-- how many of them stand there -/
def kept8 (n : Nat) : Nat := min n (8 * e8 n - 2)
theorem kept8_le (n : Nat) : kept8 n ≤ n ∧ kept8 n ≤ 2038 ∧ kept8 n + 2 ≤ 8 * e8 n := by unfold kept8 e8; omega
/-- an option's bytes -/
def ob (o : Int × List Int) : List Int := [o.1, (e8 o.2.length : Int)] ++ o.2.take (kept8 o.2.length) ++ List.replicate (8 * e8 o.2.length - 2 - kept8 o.2.length) 0
theorem ob_len (o : Int × List Int) : (ob o).length = 8 * e8 o.2.length := by
  have h := kept8_le o.2.length
  simp [ob]
  omega
def putO (os : List (Int × List Int)) : List Int := os.flatMap ob
def sizeO (os : List (Int × List Int)) : Nat := (putO os).length
theorem putO_next {os : List (Int × List Int)} {i : Nat} {o : Int × List Int} (h : os[i]? = some o) : putO (os.take (i + 1)) = putO (os.take i) ++ ob o := by
  have : os.take (i + 1) = os.take i ++ [o] := by
    rw [List.take_add_one, h]
    rfl
  rw [this]
  simp [putO]
theorem sizeO_next {os : List (Int × List Int)} {i : Nat} {o : Int × List Int} (h : os[i]? = some o) : sizeO (os.take (i + 1)) = sizeO (os.take i) + 8 * e8 o.2.length := by
  unfold sizeO
  rw [putO_next h, List.length_append, ob_len]
theorem sizeO_take (os : List (Int × List Int)) (i : Nat) : sizeO (os.take i) ≤ sizeO os := by
  have : putO os = putO (os.take i) ++ putO (os.drop i) := by
    unfold putO
    rw [← List.flatMap_append, List.take_append_drop]
  unfold sizeO
  rw [this, List.length_append]
  omega

theorem sizeO_many (os : List (Int × List Int)) : 8 * os.length ≤ sizeO os := by
  induction os with
  | nil => simp
  | cons o os ih =>
    have h1 : sizeO (o :: os) = (ob o).length + sizeO os := by simp [sizeO, putO]
    have h2 := ob_len o
    have h3 := e8_pos o.2.length
    simp only [List.length_cons]
    omega

set_option linter.unusedSimpArgs false in
set_option maxHeartbeats 2000000 in
theorem eights_any (x : El) (w : World) (hn : x.n ≤ 16000000) : Calls Tryd.prog 57 #[ov x] w fun e w' => e = .returned (.int .i64 (e8 x.n)) ∧ Below w.heap.size w w' := by
  have Y := (Lay.begin w).new (tv x) 29 rfl
  have a1 := Y.look mem0 (o := 1) (v := x.v) rfl
  have Q := veil Y.below
  obtain ⟨k, A, n, c⟩ := x
  simp only at hn
  have HE := veil (show e8 n = min ((n + 9) / 8) 255 from rfl)
  have i1 : (n : Int) ≤ 16000000 := by omega
  clear Y
  go_enter Tryd.func57, Tryd.ntmps57
  go_wp2
  all_goals go_ret
  all_goals refine ⟨?_, Q.out⟩
  all_goals rw [HE.out]
  all_goals refine congrArg (fun z : Int => Ending.returned (Value.int .i64 z)) ?_
  all_goals (simp only [Nat.min_def]; split <;> omega)

theorem zeroO : (Tryd.prog.info? 29).map (·.size) = some 2 := by kernel_rfl
theorem store_byte {w : World} {g : Nat} {t : TypeId} {l : List Int} (h : Row w g t (bv l).toArray) {i : Nat} (hi : i < l.length) (z : Int) : (Instr.storeAt 5 (.pointer (some ⟨g, i, none⟩)) (.int .u8 z)).run Tryd.prog w = .ok () (w.setCell ⟨g, i, none⟩ (.int .u8 z)) := by
  have c : w.cell? ⟨g, i, none⟩ = some (.int .u8 (l.getD i 0)) := by rw [h.cell]; simpa using bv_get l i hi
  have f : w.frozen? ⟨g, i, none⟩ = false := h.frozen i
  obtain ⟨j, hj, hz0, hz1, hz2⟩ := info_parts info_u8
  have a0 : (⟨g, i, none⟩ : Addr).add 0 = ⟨g, i, none⟩ := by simp [Addr.add]
  simp [a0, Instr.storeAt, Instr.sureAddr, storeVar, sizeOf, typeInfo, hj, hz1, Value.cells, storeCells, run_store_int, stored, c, f]
theorem _root_.Go.Proofs.YtdebifkefpclaaaDoor.Lay.poke {w0 w : World} {L : List Blk} {g : Nat} {t : TypeId} {l : List Int} (h : Lay w0 w L) (k : Nat) (hk : L[k]? = some (g, t, bv l)) {i : Nat} (hi : i < l.length) (z : Int) :
    ∃ w', (Instr.storeAt 5 (.pointer (some ⟨g, i, none⟩)) (.int .u8 z)).run Tryd.prog w = .ok () w' ∧ Lay w0 w' (L.set k (g, t, bv (l.set i z))) := by
  refine ⟨_, store_byte (h.at (List.mem_of_getElem? hk)) hi z, ?_⟩
  have := h.cell k hk i (.int .u8 z)
  rw [show bv (l.set i z) = (bv l).set i (.int .u8 z) by simp [bv, List.map_set]]
  exact this
theorem copy_min {w : World} {g o N c n c2 m : Nat} {t : TypeId} {cur : List Value} {A : Option Addr} {zs : List Int} (ty : TypeId) (hs : Slc w (.slice A n c2) zs) (hg : Row w g t cur.toArray) (hm : min n N = m) (ho : o + m ≤ cur.length) :
    (Builtin.copy_ #[26, 26] ty #[.slice (some ⟨g, o, none⟩) N c, .slice A n c2]).run Tryd.prog w = .ok (goInt m) (w.setRow g (cur.take o ++ bv (zs.take m) ++ cur.drop (o + m)).toArray) := by
  obtain ⟨hl, hr, _⟩ := slc_of hs
  obtain ⟨i, hi, hz0, hz1, hz2⟩ := info_parts info_u8
  have hsz : (Tryd.prog.info? 5).map (·.size) = some 1 := by rw [hi]; simp [hz1]
  have hml : (zs.take m).length = m := by rw [List.length_take]; omega
  by_cases h0 : 0 < n
  · obtain ⟨a, rfl, _⟩ := hr 0 (by omega)
    have h := run_copy_row (P := Tryd.prog) w 26 26 ty 5 g o N c a n c2 cur.toArray t (bv (zs.take m)) Tryd.underlying26 hsz hg (by rw [bv_length, hml, ← hm])
      (rd_list (hr.take m)) (by rw [bv_length, hml]; simpa using ho) (bv_one _)
    simpa [bv_length, hml] using h
  · obtain rfl : n = 0 := by omega
    obtain rfl : m = 0 := by omega
    have hz : zs = [] := List.eq_nil_of_length_eq_zero hl
    subst hz
    have e : cur.take o ++ bv ([].take 0) ++ cur.drop (o + 0) = cur := by simp [bv]
    rw [e, setRow_self w g cur.toArray t (0, 0) hg]
    exact run_copy_none w 26 26 ty 5 (some ⟨g, o, none⟩) A N c 0 c2 Tryd.underlying26 hsz (by simp)

theorem fill_eq {l0 d ze : List Int} {p r en m : Nat} {k q : Int} (h0 : l0.length = p) (hz : ze = List.replicate (r - 2) 0) (h1 : m + 2 ≤ en) (h2 : en ≤ r) :
    (bv (l0 ++ k :: q :: ze)).take (p + 2) ++ bv (d.take m) ++ (bv (l0 ++ k :: q :: ze)).drop (p + 2 + m) = bv (l0 ++ ([k, q] ++ d.take m ++ List.replicate (en - 2 - m) 0) ++ List.replicate (r - en) 0) := by
  have e1 : (l0 ++ k :: q :: ze).take (p + 2) = l0 ++ [k, q] := by
    rw [show l0 ++ k :: q :: ze = (l0 ++ [k, q]) ++ ze by simp]
    exact List.take_left' (by simp [h0])
  have e2 : (l0 ++ k :: q :: ze).drop (p + 2 + m) = List.replicate (en - 2 - m) 0 ++ List.replicate (r - en) 0 := by
    rw [show l0 ++ k :: q :: ze = (l0 ++ [k, q]) ++ ze by simp, ← List.drop_drop, List.drop_left' (by simp [h0]), hz, List.drop_replicate, List.replicate_append_replicate]
    congr 1
    omega
  have t : ∀ (l : List Int) (k : Nat), (bv l).take k = bv (l.take k) := fun l k => by simp [bv]
  have u : ∀ (l : List Int) (k : Nat), (bv l).drop k = bv (l.drop k) := fun l k => by simp [bv]
  have v : ∀ (l m : List Int), bv l ++ bv m = bv (l ++ m) := fun l m => by simp [bv]
  rw [t, u, e1, e2, v, v]
  simp

set_option linter.unusedSimpArgs false in
set_option maxHeartbeats 8000000 in
theorem codePut (A : Option Addr) (n c : Nat) (os : List (Int × List Int)) (w : World) (hl : os.length = n) (ha : Reads w A os) (hz : sizeO os ≤ 16000000) (ho : ∀ o ∈ os, o.2.length ≤ 16000000) (hk : ∀ o ∈ os, 0 ≤ o.1 ∧ o.1 ≤ 255) :
    Calls Tryd.prog 12 #[.slice A n c] w fun e w' => ∃ g, w.heap.size ≤ g ∧ e = .returned (.slice (some ⟨g, 0, none⟩) (sizeO os) (sizeO os)) ∧ Row w' g 5 (bv (putO os)).toArray ∧ Below w.heap.size w w' := by
  have HA := veil ha
  have HL := veil hl
  have HZ := veil hz
  have HO := veil ho
  have HK := veil hk
  have in16 : (n : Int) ≤ 2000000 := by have := sizeO_many os; omega
  clear ha hl hz ho hk
  go_enter Tryd.func12, Tryd.ntmps12
  go_wp2_with fail
  go_loopw [3, 13] (fun s3 s13 wr => ∃ i : Nat, i ≤ n ∧ s13 = .int .i64 i ∧ s3 = .int .i64 (sizeO (os.take i)) ∧ Hid (Below w.heap.size w wr)) (fun _ s13 _ => n - (intOf s13).toNat)
  case atStart => exact ⟨0, Nat.zero_le _, rfl, by simp [sizeO, putO], veil (Below.refl _ _)⟩
  case round =>
    rename_i wr
    obtain ⟨i, hi, rfl, rfl, VB⟩ := hrel
    by_cases hlt : i < n
    · have ij : (i : Int) < (n : Int) := by omega
      obtain ⟨o, ho⟩ : ∃ o, os[i]? = some o := ⟨_, List.getElem?_eq_getElem (by rw [HL.out]; exact hlt)⟩
      obtain ⟨a, x, ha, X, k1, s1⟩ := HA.out i o ho
      subst ha
      have hxn : x.n = o.2.length := ((slc_of s1).1).symm
      have L0 := veil ((X.keep VB.out).load)
      obtain ⟨ZF, hZF⟩ : ∃ Z : Array Value, Z = #[.int .u8 0, .slice none 0 0] := ⟨_, rfl⟩
      have hzf : Hid (ZF.toList.length = 2) := by rw [hZF]; exact rfl
      have Y1 := (Lay.begin wr).newA ZF 29 (g := wr.heap.size) rfl
      have T1 := veil (store_all (P := Tryd.prog) (ty := 29) (vs := tv x) (Y1.at mem0) (by rw [hzf.out]; rfl) zeroO (by intro v hv; simp at hv; rcases hv with rfl | rfl <;> rfl))
      have Y2 := Y1.put 0 rfl (tv x)
      simp only [List.set_cons_zero] at Y2
      obtain ⟨u, hu⟩ : ∃ u, (wr.alloc (.cells ZF 29)).setRow wr.heap.size (tv x).toArray = u := ⟨_, rfl⟩
      rw [hu] at T1 Y2
      have L1 := veil (Y2.load mem0 (part_all _) Tryd.underlying29 rfl zeroO)
      have K := eights_any x u (by rw [hxn]; exact HO.out o (List.mem_of_getElem? ho))
      rw [hxn] at K
      have hs := sizeO_next ho
      have hle := sizeO_take os (i + 1)
      have hb8 := e8_pos o.2.length
      replace K := veil K
      have VQ := veil (VB.out.trans (Y2.below.mono VB.out.size))
      obtain ⟨m, hm⟩ : ∃ m, sizeO (os.take i) = m := ⟨_, rfl⟩
      obtain ⟨q, hq⟩ : ∃ q, e8 o.2.length = q := ⟨_, rfl⟩
      rw [hm, hq] at hs
      rw [hq] at K hb8
      rw [hm]
      have i5 : (m : Int) + 8 * (q : Int) ≤ 16000000 := by have := HZ.out; omega
      have i6 : (1 : Int) ≤ (q : Int) := by omega
      have i7 : (q : Int) ≤ 255 := by omega
      have HS := veil hs
      clear X s1 k1 ho hxn Y1 Y2 hu hs hle hb8 hm hq
      generalize ZF.toList = ZFL at *
      subst hZF
      go_wp2_with (first
        | (refine wpList_store_of rfl _ _ rfl rfl rfl T1.out ?_)
        | (refine wpList_load_of rfl (.tmp 15) rfl rfl L0.out ?_)
        | (refine wpList_load_of rfl (.tmp 5) rfl rfl L1.out ?_))
      refine (K.out).mono ?_
      rintro e w2 ⟨rfl, q2⟩
      have VE := veil (VQ.out.trans (q2.mono VQ.out.size))
      clear K q2 VQ T1 L0 L1
      go_wp2_with fail
      go_roundw
      case rel => exact ⟨i + 1, by omega, by go_num, by rw [HS.out]; go_num, VE⟩
      case measure => simp [intOf]; omega
    · obtain rfl : i = n := by omega
      have ij : ¬ (i : Int) < (i : Int) := by omega
      rw [List.take_of_length_le (by rw [HL.out]; omega)]
      have VB' := veil VB.out
      clear VB
      obtain ⟨N, hN⟩ : ∃ N, sizeO os = N := ⟨_, rfl⟩
      rw [hN]
      have HN := veil hN
      have iN : (N : Int) ≤ 16000000 := by have := HZ.out; omega
      have hmk := run_make_u8 N (by omega) wr
      have Y := (Lay.begin w).keep VB'.out
      have Y0 := Y.newA (zeros N) 5 (g := wr.heap.size) rfl
      rw [show (zeros N).toList = bv (putO (os.take 0) ++ List.replicate N 0) by rw [zeros_list]; simp [putO, bv]] at Y0
      have VY := veil Y0
      have hgb : w.heap.size ≤ wr.heap.size := VB'.out.size
      clear Y Y0 VB'
      go_wp2_with fail
      generalize wr.alloc (.cells (zeros N) 5) = wb at *
      generalize wr.heap.size = gb at *
      clear hmk
      go_loopw [7, 28] (fun s7 s28 wq => ∃ (j o r : Nat), j ≤ i ∧ s28 = .int .i64 j ∧ s7 = .slice (some ⟨gb, o, none⟩) r r ∧ sizeO (os.take j) + r = N ∧ Hid (0 < r → o = sizeO (os.take j)) ∧ Hid (Lay w wq [(gb, 5, bv (putO (os.take j) ++ List.replicate r 0))])) (fun _ s28 _ => i - (intOf s28).toNat)
      case atStart => exact ⟨0, 0, N, Nat.zero_le _, rfl, rfl, by simp [sizeO, putO], veil (fun _ => by simp [sizeO, putO]), VY⟩
      case round =>
        rename World => wq
        obtain ⟨j, p, r, hj, rfl, rfl, hr, hp, VZ⟩ := hrel
        clear VY
        by_cases hlt : j < i
        · have ij : (j : Int) < (i : Int) := by omega
          obtain ⟨o, ho⟩ : ∃ o, os[j]? = some o := ⟨_, List.getElem?_eq_getElem (by rw [HL.out]; exact hlt)⟩
          obtain ⟨a, x, ha, X, k1, s1⟩ := HA.out j o ho
          subst ha
          have hxn : x.n = o.2.length := ((slc_of s1).1).symm
          have L0 := veil ((X.keep VZ.out.below).load)
          obtain ⟨ZF, hZF⟩ : ∃ Z : Array Value, Z = #[.int .u8 0, .slice none 0 0] := ⟨_, rfl⟩
          have hzf : Hid (ZF.toList.length = 2) := by rw [hZF]; exact rfl
          have Y1 := VZ.out.newA ZF 29 (g := wq.heap.size) rfl
          have T1 := veil (store_all (P := Tryd.prog) (ty := 29) (vs := tv x) (Y1.at mem0) (by rw [hzf.out]; rfl) zeroO (by intro v hv; simp at hv; rcases hv with rfl | rfl <;> rfl))
          have Y2 := Y1.put 0 rfl (tv x)
          simp only [List.set_cons_zero] at Y2
          obtain ⟨u, hu⟩ : ∃ u, (wq.alloc (.cells ZF 29)).setRow wq.heap.size (tv x).toArray = u := ⟨_, rfl⟩
          rw [hu] at T1 Y2
          have L1 := veil (Y2.load mem0 (part_all _) Tryd.underlying29 rfl zeroO)
          have KE := fun v : World => eights_any x v (by rw [hxn]; exact HO.out o (List.mem_of_getElem? ho))
          simp only [hxn] at KE
          have hs := sizeO_next ho
          have hle := sizeO_take os (j + 1)
          have hb8 := e8_pos o.2.length
          have hbk := HK.out o (List.mem_of_getElem? ho)
          obtain ⟨m, hm⟩ : ∃ m, sizeO (os.take j) = m := ⟨_, rfl⟩
          obtain ⟨q, hq⟩ : ∃ q, e8 o.2.length = q := ⟨_, rfl⟩
          rw [hm, hq] at hs
          simp only [hq] at KE
          rw [hq] at hb8
          rw [hm] at hr hp
          have hr8 : 8 * q ≤ r := by have := HN.out; omega
          obtain rfl : p = m := hp.out (by omega)
          have i6 : (1 : Int) ≤ (q : Int) := by omega
          have i7 : (q : Int) ≤ 255 := by omega
          have i8 : (1 : Int) < (r : Int) := by omega
          have i9 : 0 < r := by omega
          have HS := veil hs
          have HM := veil hm
          have HQ := veil hq
          have KE' := veil KE
          have HXN := veil hxn
          have HKX := veil k1
          have HSX := veil s1
          have HOJ := veil ho
          have VY2 := veil Y2
          clear X s1 k1 ho hxn Y1 Y2 hu hs hle hb8 hm hq VZ KE hp
          generalize hw9 : wq.heap.size = g9 at *
          generalize ZF.toList = ZFL at *
          subst hZF
          go_wp2_with (first
            | (refine wpList_store_of rfl _ _ rfl rfl rfl T1.out ?_)
            | (refine wpList_load_of rfl (.tmp 30) rfl rfl L0.out ?_)
            | (refine wpList_load_of rfl (.tmp 9) rfl rfl L1.out ?_))
          refine (KE'.out u).mono ?_
          rintro e w2 ⟨rfl, q2⟩
          have VY3 := veil (VY2.out.keep q2)
          clear q2 VY2 T1 L0 L1
          go_wp2_with fail
          obtain ⟨l0, hl0⟩ : ∃ l, putO (os.take j) = l := ⟨_, rfl⟩
          have hl0p : l0.length = p := by rw [← hl0]; exact HM.out
          obtain ⟨ze, hze⟩ : ∃ z, z = List.replicate (r - 2) (0 : Int) := ⟨_, rfl⟩
          have hrep : List.replicate r (0 : Int) = 0 :: 0 :: ze := by rw [hze, show r = (r - 2) + 1 + 1 by omega]; rfl
          have hzl : ze.length + 2 = r := by rw [hze]; simp; omega
          have hwq : IntKind.u8.wrap (q : Int) = (q : Int) := by rw [IntKind.wrap_u8]; omega
          have C0 := veil (And.intro (VY3.out.drew.range mem0 (part_all _)) (VY3.out.drew.look mem0 (o := 0) (v := .int .u8 x.k) rfl))
          rw [hl0, hrep] at VY3
          have HL0 := veil hl0
          have HL0P := veil hl0p
          have HZE := veil hze
          have HZL := veil hzl
          clear hrep hze hl0 hl0p hzl
          -- region 13
          refine wp_region_noPanic ?_
          refine wp_region_held_drew (S := (fun w' => w'.rangeAt g9 0 (tv x) ∧ w'.cell? ⟨g9, 0, none⟩ = some (.int .u8 x.k))) (by kernel_rfl) C0.out (fun hHeld => ?_)
          refine wpAnyH_take (i := 0) (v := ?_) (by rfl) (by kernel_rfl) (by kernel_rfl) (by kernel_rfl) (fun _ _ _ h => h) (Or.inl ⟨by rfl, ?_⟩) hHeld ?_
          rotate_left
          · intro w' hSw
            (try dsimp only at hSw)
            simp only [List.getElem_toArray, List.getElem_cons_zero, List.getElem_cons_succ]
            go_simp
            all_goals (try with_reducible rfl)
          try simp only [Act.put, List.setIfInBounds_toArray, List.set_cons_zero, List.set_cons_succ, List.getElem_toArray, List.getElem_cons_zero, List.getElem_cons_succ]
          refine wpAnyH_take (i := 1) (v := ?_) (by rfl) (by kernel_rfl) (by kernel_rfl) (by kernel_rfl) (fun _ _ _ h => h) (Or.inl ⟨by rfl, ?_⟩) hHeld ?_
          rotate_left
          · intro w' hSw
            (try dsimp only at hSw)
            simp only [List.getElem_toArray, List.getElem_cons_zero, List.getElem_cons_succ]
            go_simp
            all_goals (try with_reducible rfl)
          try simp only [Act.put, List.setIfInBounds_toArray, List.set_cons_zero, List.set_cons_succ, List.getElem_toArray, List.getElem_cons_zero, List.getElem_cons_succ]
          refine wpAnyH_take (i := 2) (v := ?_) (by rfl) (by kernel_rfl) (by kernel_rfl) (by kernel_rfl) (fun _ _ _ h => h) (Or.inl ⟨by rfl, ?_⟩) hHeld ?_
          rotate_left
          · intro w' hSw
            (try dsimp only at hSw)
            simp only [List.getElem_toArray, List.getElem_cons_zero, List.getElem_cons_succ]
            go_simp
            all_goals (try with_reducible rfl)
          try simp only [Act.put, List.setIfInBounds_toArray, List.set_cons_zero, List.set_cons_succ, List.getElem_toArray, List.getElem_cons_zero, List.getElem_cons_succ]
          refine wpAnyH_take (i := 3) (v := ?_) (by rfl) (by kernel_rfl) (by kernel_rfl) (by kernel_rfl) (fun _ _ _ h => h) (Or.inl ⟨by rfl, ?_⟩) hHeld ?_
          rotate_left
          · intro w' hSw
            (try dsimp only at hSw)
            simp only [List.getElem_toArray, List.getElem_cons_zero, List.getElem_cons_succ]
            go_simp
            all_goals (try with_reducible rfl)
          try simp only [Act.put, List.setIfInBounds_toArray, List.set_cons_zero, List.set_cons_succ, List.getElem_toArray, List.getElem_cons_zero, List.getElem_cons_succ]
          refine wpAnyH_take (i := 4) (v := _) (by rfl) (by kernel_rfl) (by kernel_rfl) (by kernel_rfl) (fun _ _ _ h => h) (yieldsIf_load_mid (by rfl) _ _ (by rfl) _ _ rfl (tv x) _ (fun _ h => h.1) Tryd.underlying29 rfl zeroO) hHeld ?_
          try simp only [Act.put, List.setIfInBounds_toArray, List.set_cons_zero, List.set_cons_succ, List.getElem_toArray, List.getElem_cons_zero, List.getElem_cons_succ]
          refine wpAnyH_ready (rs := [5]) (by kernel_rfl) (by simp) ?_
          refine AllReadyH.cons (by rfl) (fun K hK => ?_) AllReadyH.nil
          simp only [List.getElem_toArray, List.getElem_cons_zero, List.getElem_cons_succ]
          go_simp
          refine (KE'.out _).mono ?_
          rintro e w3 ⟨rfl, q3⟩
          have Y4 := VY3.out.drew.keep q3
          have D0 := veil (And.intro (Y4.range mem0 (part_all _)) (Y4.look mem0 (o := 0) (v := .int .u8 x.k) rfl))
          obtain ⟨w4, H4, Y5⟩ := Y4.poke 1 rfl (i := p) (by rw [List.length_append, HL0P.out]; simp) x.k
          simp only [List.set_cons_zero, List.set_cons_succ] at Y5
          rw [show (l0 ++ 0 :: 0 :: ze).set p x.k = l0 ++ x.k :: 0 :: ze by rw [List.set_append_right _ _ (by rw [HL0P.out]; exact Nat.le_refl _), HL0P.out, Nat.sub_self]; rfl] at Y5
          have E0 := veil (And.intro (Y5.range mem0 (part_all _)) (Y5.look mem0 (o := 0) (v := .int .u8 x.k) rfl))
          obtain ⟨w5, H5, Y6⟩ := Y5.poke 1 rfl (i := p + 1) (by rw [List.length_append, HL0P.out]; simp) (q : Int)
          simp only [List.set_cons_zero, List.set_cons_succ] at Y6
          rw [show (l0 ++ x.k :: 0 :: ze).set (p + 1) (q : Int) = l0 ++ x.k :: (q : Int) :: ze by rw [List.set_append_right _ _ (by rw [HL0P.out]; omega), HL0P.out, Nat.add_sub_cancel_left]; rfl] at Y6
          have F0 := veil (And.intro (Y6.range mem0 (part_all _)) (Y6.look mem0 (o := 0) (v := .int .u8 x.k) rfl))
          have VH4 := veil H4
          have VH5 := veil H5
          have VY6 := veil Y6
          clear Y4 Y5 Y6 q3 H4 H5
          (try dsimp only)
          refine hK.out _ _ D0.out (fun hHeld => ?_)
          clear hK K
          try simp only [Act.put, List.setIfInBounds_toArray, List.set_cons_zero, List.set_cons_succ, List.getElem_toArray, List.getElem_cons_zero, List.getElem_cons_succ]
          refine wpAnyH_take (i := 6) (v := ?_) (by rfl) (by kernel_rfl) (by kernel_rfl) (by kernel_rfl) (fun _ _ _ h => h) (Or.inl ⟨by rfl, ?_⟩) hHeld ?_
          rotate_left
          · intro w' hSw
            (try dsimp only at hSw)
            simp only [List.getElem_toArray, List.getElem_cons_zero, List.getElem_cons_succ]
            go_simp
            all_goals (try with_reducible rfl)
          try simp only [Act.put, List.setIfInBounds_toArray, List.set_cons_zero, List.set_cons_succ, List.getElem_toArray, List.getElem_cons_zero, List.getElem_cons_succ]
          refine wpAnyH_take (i := 7) (v := ?_) (by rfl) (by kernel_rfl) (by kernel_rfl) (by kernel_rfl) (fun _ _ _ h => h) (Or.inl ⟨by rfl, ?_⟩) hHeld ?_
          rotate_left
          · intro w' hSw
            (try dsimp only at hSw)
            simp only [List.getElem_toArray, List.getElem_cons_zero, List.getElem_cons_succ]
            go_simp
            all_goals (try with_reducible rfl)
          try simp only [Act.put, List.setIfInBounds_toArray, List.set_cons_zero, List.set_cons_succ, List.getElem_toArray, List.getElem_cons_zero, List.getElem_cons_succ]
          refine wpAnyH_ready (rs := [8]) (by kernel_rfl) (by simp) ?_
          refine AllReadyH.cons (by rfl) (fun K hK => ?_) AllReadyH.nil
          simp only [List.getElem_toArray, List.getElem_cons_zero, List.getElem_cons_succ]
          refine wp_store_of (.tmp 42) (.tmp 38) rfl rfl rfl VH4.out ?_
          (try dsimp only)
          refine hK.out _ _ E0.out (fun hHeld => ?_)
          clear hK K
          try simp only [Act.put, List.setIfInBounds_toArray, List.set_cons_zero, List.set_cons_succ, List.getElem_toArray, List.getElem_cons_zero, List.getElem_cons_succ]
          refine wpAnyH_take (i := 9) (v := ?_) (by rfl) (by kernel_rfl) (by kernel_rfl) (by kernel_rfl) (fun _ _ _ h => h) (Or.inl ⟨by rfl, ?_⟩) hHeld ?_
          rotate_left
          · intro w' hSw
            (try dsimp only at hSw)
            simp only [List.getElem_toArray, List.getElem_cons_zero, List.getElem_cons_succ]
            go_simp
            all_goals (try with_reducible rfl)
          try simp only [Act.put, List.setIfInBounds_toArray, List.set_cons_zero, List.set_cons_succ, List.getElem_toArray, List.getElem_cons_zero, List.getElem_cons_succ]
          refine wpAnyH_ready (rs := [10]) (by kernel_rfl) (by simp) ?_
          refine AllReadyH.cons (by rfl) (fun K hK => ?_) AllReadyH.nil
          simp only [List.getElem_toArray, List.getElem_cons_zero, List.getElem_cons_succ]
          refine wp_store_of (.tmp 43) (.tmp 41) rfl rfl rfl VH5.out ?_
          (try dsimp only)
          refine hK.out _ _ F0.out (fun hHeld => ?_)
          clear hK K
          try simp only [Act.put, List.setIfInBounds_toArray, List.set_cons_zero, List.set_cons_succ, List.getElem_toArray, List.getElem_cons_zero, List.getElem_cons_succ]
          refine wpAnyH_done (by kernel_rfl) ?_ _
          refine NoPanic.normal ?_
          clear hHeld
          -- behind it
          clear C0 D0 E0 F0 VH4 VH5 VY3
          have HKP := veil (kept8_le o.2.length)
          obtain ⟨m, hm⟩ : ∃ m, kept8 o.2.length = m := ⟨_, rfl⟩
          have hmq : min x.n (8 * q - 2) = m := by rw [← hm, ← HQ.out, HXN.out]; rfl
          rw [hm] at HKP
          have hq8 : (q : Int) * 8 = ((8 * q : Nat) : Int) := by omega
          obtain ⟨en, hen⟩ : ∃ x, 8 * q = x := ⟨_, rfl⟩
          rw [hen] at hq8 hmq hr8
          have HEN := veil hen
          have HMK := veil hm
          have hm2 : m + 2 ≤ en := by have := HKP.out; have := HQ.out; rw [this] at *; omega
          have E46 : ∀ u, (Instr.sliceAt 26 (.slice (some ⟨gb, p, none⟩) r r) (some (.int .i64 2)) (some (.int .i64 (en : Int))) none).run Tryd.prog u = .ok (.slice (some ⟨gb, p + 2, none⟩) (en - 2) (r - 2)) u := fun u => by
            have := slice_lohi (A := some ⟨gb, p, none⟩) (n := r) (c := r) (j := 2) (k := en) (by omega) (by omega) u
            rw [cutA_ct, if_neg (by omega)] at this
            exact this
          have c1 := VY6.out.look mem0 (o := 1) (v := x.v) rfl
          have SX := veil (HSX.out.keep (w' := w5.drew) VY6.out.drew.below)
          have VY7 := veil VY6.out.drew
          clear hen hm VY6
          simp only [hq8]
          go_wp2_with fail
          go_still_tail 5, (by kernel_rfl)
          change wpList _ _ _ _ _ w5.drew
          generalize w5.drew = w6 at *
          clear E46 c1
          have CP := veil (copy_min (N := en - 2) (c := r - 2) (g := gb) (o := p + 2) 3 SX.out (VY7.out.at mem1) hmq (by rw [bv_length, List.length_append, HL0P.out]; simp; have := HZL.out; omega))
          obtain ⟨w7, hw7⟩ : ∃ u, w6.setRow gb ((bv (l0 ++ x.k :: (q : Int) :: ze)).take (p + 2) ++ bv (o.2.take m) ++ (bv (l0 ++ x.k :: (q : Int) :: ze)).drop (p + 2 + m)).toArray = u := ⟨_, rfl⟩
          have Y8 := VY7.out.put 1 rfl ((bv (l0 ++ x.k :: (q : Int) :: ze)).take (p + 2) ++ bv (o.2.take m) ++ (bv (l0 ++ x.k :: (q : Int) :: ze)).drop (p + 2 + m))
          simp only [List.set_cons_zero, List.set_cons_succ] at Y8
          rw [hw7] at CP Y8
          rw [fill_eq HL0P.out HZE.out hm2 hr8] at Y8
          have hob : ob o = [x.k, (q : Int)] ++ o.2.take m ++ List.replicate (en - 2 - m) 0 := by
            unfold ob
            rw [HQ.out, HEN.out, HMK.out, HKX.out]
          rw [← hob, ← HL0.out, ← putO_next HOJ.out] at Y8
          have Y9 := Y8.sub (L' := [(gb, 5, bv (putO (os.take (j + 1)) ++ List.replicate (r - en) 0))]) (List.Sublist.cons _ (List.Sublist.cons_cons _ (List.nil_sublist _)))
          have VY9 := veil Y9
          have hsz : Hid (sizeO (os.take (j + 1)) + (r - en) = N) := veil (by rw [sizeO_next HOJ.out, HM.out, HQ.out, HEN.out]; omega)
          obtain ⟨p', hp'⟩ : ∃ x, (if r = en then p else p + en) = x := ⟨_, rfl⟩
          have hpp : Hid (0 < r - en → p' = sizeO (os.take (j + 1))) := veil (fun h => by rw [← hp', if_neg (by omega), sizeO_next HOJ.out, HM.out, HQ.out, HEN.out])
          have E52 : ∀ u, (Instr.sliceAt 26 (.slice (some ⟨gb, p, none⟩) r r) (some (.int .i64 (en : Int))) none none).run Tryd.prog u = .ok (.slice (some ⟨gb, p', none⟩) (r - en) (r - en)) u := fun u => by
            have := slice_lo (A := some ⟨gb, p, none⟩) (n := r) (c := r) (k := en) (by omega) u
            rw [cutA_ct, hp'] at this
            exact this
          clear Y8 Y9 hw7 hob hp' VY7 SX
          refine wpList_copy_of rfl (.tmp 46) (.tmp 48) rfl rfl rfl CP.out ?_
          clear CP
          go_wp2_with fail
          go_roundw
          case rel => exact ⟨j + 1, p', r - en, by omega, by go_num, rfl, hsz.out, hpp, VY9⟩
          case measure => simp [intOf]; omega
        · obtain rfl : j = i := by omega
          have ij : ¬ (j : Int) < (j : Int) := by omega
          have hfull : os.take j = os := List.take_of_length_le (by rw [HL.out]; omega)
          rw [hfull] at VZ hr
          obtain rfl : r = 0 := by have := HN.out; omega
          have hrow : Hid (Row wq gb 5 (bv (putO os)).toArray) := veil (by
            have := VZ.out.at mem0
            rwa [show putO os ++ List.replicate 0 0 = putO os by simp] at this)
          have VB9 := veil VZ.out.below
          clear VZ hp
          go_wp2_with fail
          go_ret
          exact ⟨gb, hgb, rfl, hrow.out, VB9.out⟩

end Go.Proofs.YtdebifkefpclaaaDoor.Oz
