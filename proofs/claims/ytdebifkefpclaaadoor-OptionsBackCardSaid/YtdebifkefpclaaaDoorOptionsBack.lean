/-
  OptionsBack: what is put is got, each option filled up with noughts to whole eights, if there are not too many; cut anywhere within the last one it is none: the law returns true for every input, and its arguments read as before; the tables that the row lists are tied to the program's text.
  Conditions: none.
-/
import Derived.Test.YtdebifkefpclaaaDoorOpoW
import Derived.Test.YtdebifkefpclaaaDoorOpoZ
import Derived.Test.YtdebifkefpclaaaDoorOpoB
import Derived.Deep.CutRange
import Derived.Deep.RegionHeld3
import Derived.BigRegion
namespace Go.Proofs.YtdebifkefpclaaaDoor.optionsBack
set_option maxRecDepth 100000
open Go.ChangeShapes Go.WideShapes Go.ChangeAt Go.RowKit Go.Proofs.YtdebifkefpclaaaDoor.Oz Ops

/-- what the law is handed -/
structure Fits (W : World) (A : Option Addr) (n : Nat) (os : List (Int × List Int)) (q : Int) : Prop where
  l : os.length = n
  r : Reads W A os
  f : Fine os
  s : n + sumL os ≤ 5000
  q : 0 ≤ q ∧ q ≤ 65535
  m : Mx W
theorem Fits.len {W : World} {A : Option Addr} {n : Nat} {os : List (Int × List Int)} {q : Int} (h : Fits W A n os q) : ∀ o ∈ os, o.2.length ≤ 5000 := fun o ho => by
  have := sumL_mem ho
  have := h.s
  omega
theorem Fits.size {W : World} {A : Option Addr} {n : Nat} {os : List (Int × List Int)} {q : Int} (h : Fits W A n os q) : sizeO os ≤ 50000 := by
  have := sizeO_sum os
  have := h.s
  have := h.l
  omega
theorem size_mod (os : List (Int × List Int)) : sizeO os % 8 = 0 := by
  induction os with
  | nil => simp [sizeO, putO]
  | cons o os ih =>
    have : sizeO (o :: os) = (ob o).length + sizeO os := by unfold sizeO; rw [putO_cons, List.length_append]
    rw [ob_len] at this
    omega
theorem rem_cut {q : Int} {n : Nat} (hq : 0 ≤ q ∧ q ≤ 65535) (hn : 0 < n) : ∃ m : Nat, IntKind.i64.wrap (q.tmod (n : Int)) = (m : Int) ∧ q.tmod (n : Int) = (m : Int) ∧ m < n := by
  refine ⟨(q % n).toNat, ?_⟩
  have h1 : q.tmod (n : Int) = q % n := Int.tmod_eq_emod_of_nonneg hq.1
  have h2 := Int.emod_nonneg q (show (n : Int) ≠ 0 by omega)
  have h3 := Int.emod_lt_of_pos q (show (0 : Int) < n by omega)
  have h4 : q % (n : Int) ≤ q := by
    have := Int.mul_ediv_add_emod q n
    have := Int.mul_nonneg (show (0 : Int) ≤ n by omega) (Int.ediv_nonneg hq.1 (show (0 : Int) ≤ n by omega))
    omega
  have h5 : ((q % (n : Int)).toNat : Int) = q % n := by omega
  rw [h1, h5]
  exact ⟨by rw [IntKind.wrap_i64]; omega, rfl, by omega⟩
theorem rd_zeros (v : World) (d : Nat) : Rd (v.alloc (.cells (zeros d) 5)) (some ⟨v.heap.size, 0, none⟩) (List.replicate d 0) := by
  have Y := (Lay.begin v).newA (zeros d) 5 (g := v.heap.size) rfl
  have h := Y.at mem0
  rw [show (zeros d).toList = bv (List.replicate d 0) by rw [zeros_list]; simp [bv]] at h
  exact rd_row h (fun j hj => by rw [Nat.zero_add]; exact bv_get _ j hj)
/-- what a call of Get tells of options that were put -/
def Got (w : World) (os : List (Int × List Int)) (e : Ending) (w' : World) : Prop := ∃ A m er, e = .returned (.tuple #[.slice A m m, .int .i64 er]) ∧ ((os.length ≤ 64 ∧ er = 0 ∧ m = os.length ∧ Reads w' A (os.map fill)) ∨ (64 < os.length ∧ er = 4 ∧ m = 0)) ∧ Below w.heap.size w w'
theorem got_put {w : World} {os : List (Int × List Int)} {e : Ending} {w' : World} (hb : Byt (putO os)) (h : GotO w (putO os) (goes (putO os) 0 []) e w') : Got w os e w' := by
  by_cases h64 : os.length ≤ 64
  · have hg := goes_put os [] [] (by simpa using h64)
    simp only [List.nil_append, List.length_nil] at hg
    rw [hg] at h
    obtain ⟨A, b, base, cap, L, he, hm, M⟩ := h
    rw [spans_len] at he M
    refine ⟨A, os.length, 0, he, .inl ⟨h64, rfl, rfl, ?_⟩, M.lay.below⟩
    have hp := plain_spans os []
    simp only [List.nil_append, List.length_nil] at hp
    rw [← hp]
    have hL := spans_lie os h64 hb
    refine M.inRow.reads (by simp [els, plain]) (fun i x o hx ho => ?_)
    unfold els at hx
    unfold plain at ho
    rw [List.getElem?_map] at hx ho
    cases hs : (spans os 0)[i]? with
    | none => rw [hs] at hx; cases hx
    | some s =>
      rw [hs] at hx ho
      simp at hx ho
      subst hx ho
      have h1 := hL.1 s (List.mem_of_getElem? hs)
      exact ⟨rfl, slc_part (M.lay.at hm) part_drop (len_drop (by omega)) (Nat.le_refl _)⟩
  · have hg := goes_many os [] [] (by simp; omega) (by simp)
    simp only [List.nil_append, List.length_nil] at hg
    rw [hg] at h
    exact ⟨none, 0, 4, h.1, .inr ⟨by omega, rfl, rfl⟩, h.2⟩

/-- greater than is gone through -/
theorem walk_great (A : Option Addr) (n c : Nat) (os : List (Int × List Int)) (q : Int) (w : World) (hl : os.length = n) (hn : n ≤ 140737488355328) (ha : Reads w A os) (hf : Fine os) (hm : Mx w) (h : 5000 < n + sumL os) :
    Calls Tryd.prog 6 #[.slice A n c, .int .u16 q] w fun e w' => e = .returned (.bool true) ∧ Below w.heap.size w w' := by
  have K := great_any A n c os w hl hn ha hf
  rw [decide_eq_true h] at K
  replace K := veil K
  have KV := veil (lives_true w hm)
  clear hl hn ha hf hm h
  go_enter Tryd.func6, Tryd.ntmps6
  go_wp2_with fail
  refine (K.out).mono ?_
  rintro e w1 ⟨rfl, rfl⟩
  clear K
  go_wp2_with fail
  refine (KV.out).mono ?_
  rintro e w2 ⟨rfl, q2⟩
  clear KV
  go_wp2_with fail
  go_ret
  exact ⟨rfl, q2⟩

set_option linter.unusedSimpArgs false in
set_option maxHeartbeats 16000000 in
theorem walk_many (A : Option Addr) (n c : Nat) (os : List (Int × List Int)) (q : Int) (w : World) (H : Fits w A n os q) (hn64 : 64 < n) :
    Calls Tryd.prog 6 #[.slice A n c, .int .u16 q] w fun e w' => e = .returned (.bool true) ∧ Below w.heap.size w w' := by
  have K := great_any A n c os w H.l (by have := H.s; omega) H.r H.f
  rw [decide_eq_false (by have := H.s; omega)] at K
  replace K := veil K
  have KP := veil (codePut A n c os w H.l H.r (by have := H.size; omega) (fun o ho => by have := H.len o ho; omega) H.f.k)
  have HH := veil H
  have i5 : (n : Int) ≤ 5000 := by have := H.s; omega
  have H64 := veil hn64
  clear H hn64
  go_enter Tryd.func6, Tryd.ntmps6
  go_wp2_with fail
  refine (K.out).mono ?_
  rintro e w1 ⟨rfl, rfl⟩
  clear K
  go_wp2_with fail
  refine (KP.out).mono ?_
  rintro e w1 ⟨gp, hgp, rfl, rp, q1⟩
  have hby := putO_byt HH.out.f.k HH.out.f.z
  have KG := veil ((codeGet (some ⟨gp, 0, none⟩) (sizeO os) (sizeO os) (putO os) w1 (slc_part rp (part_all _) rfl (Nat.le_refl _)) hby rfl (by have := HH.out.size; omega)).mono fun _ _ h => got_put hby h)
  have VR := veil rp
  have VQ := veil q1
  have HBY := veil hby
  have hsn := sizeO_many os
  have hs8 := size_mod os
  have hsz := HH.out.size
  obtain ⟨N, hN⟩ : ∃ N, sizeO os = N := ⟨_, rfl⟩
  have HN := veil hN
  have HGP := veil hgp
  rw [hN] at KG hsn hs8 hsz
  rw [HH.out.l] at hsn
  have j1 : ((N : Int).tmod 8 == 0) = true := by
    have : (N : Int).tmod 8 = 0 := by rw [Int.tmod_eq_emod_of_nonneg (by omega)]; omega
    rw [this]
    rfl
  have j2 : ¬ (N : Int) < 8 * (n : Int) := by omega
  have j3 : (N : Int) ≤ 50000 := by omega
  have j4 : (N : Int) % 8 = 0 := by omega
  clear KP rp q1 hby hN hgp hsn hs8 hsz
  simp only [HN.out]
  go_wp2_with fail
  refine (KG.out).mono ?_
  rintro e w2 ⟨A2, m, er, rfl, hgot, q2⟩
  obtain ⟨_, rfl, rfl⟩ : 64 < os.length ∧ er = 4 ∧ m = 0 := by
    rcases hgot with h | h
    · have := H64.out; have := HH.out.l; omega
    · exact h
  have VB := veil (VQ.out.trans (q2.mono VQ.out.size))
  have KV := veil (lives_true w2 (HH.out.m.keep VB.out))
  have k1 : (64 : Int) < (n : Int) := by have := H64.out; omega
  clear KG hgot q2 VQ VR
  go_wp2_with fail
  refine (KV.out).mono ?_
  rintro e w3 ⟨rfl, q3⟩
  clear KV
  go_wp2_with fail
  go_ret
  exact ⟨rfl, VB.out.trans (q3.mono VB.out.size)⟩

set_option linter.unusedSimpArgs false in
set_option maxHeartbeats 16000000 in
theorem walk_few (A : Option Addr) (n c : Nat) (os : List (Int × List Int)) (q : Int) (w : World) (H : Fits w A n os q) (hn64 : n ≤ 64) :
    Calls Tryd.prog 6 #[.slice A n c, .int .u16 q] w fun e w' => e = .returned (.bool true) ∧ Below w.heap.size w w' := by
  have K := great_any A n c os w H.l (by have := H.s; omega) H.r H.f
  rw [decide_eq_false (by have := H.s; omega)] at K
  replace K := veil K
  have KP := veil (codePut A n c os w H.l H.r (by have := H.size; omega) (fun o ho => by have := H.len o ho; omega) H.f.k)
  have HH := veil H
  have i5 : (n : Int) ≤ 5000 := by have := H.s; omega
  have H64 := veil hn64
  clear H hn64
  go_enter Tryd.func6, Tryd.ntmps6
  go_wp2_with fail
  refine (K.out).mono ?_
  rintro e w1 ⟨rfl, rfl⟩
  clear K
  go_wp2_with fail
  refine (KP.out).mono ?_
  rintro e w1 ⟨gp, hgp, rfl, rp, q1⟩
  have hby := putO_byt HH.out.f.k HH.out.f.z
  have KG := veil ((codeGet (some ⟨gp, 0, none⟩) (sizeO os) (sizeO os) (putO os) w1 (slc_part rp (part_all _) rfl (Nat.le_refl _)) hby rfl (by have := HH.out.size; omega)).mono fun _ _ h => got_put hby h)
  have VR := veil rp
  have VQ := veil q1
  have HBY := veil hby
  have hsn := sizeO_many os
  have hs8 := size_mod os
  have hsz := HH.out.size
  obtain ⟨N, hN⟩ : ∃ N, sizeO os = N := ⟨_, rfl⟩
  have HN := veil hN
  have HGP := veil hgp
  rw [hN] at KG hsn hs8 hsz
  rw [HH.out.l] at hsn
  have j1 : ((N : Int).tmod 8 == 0) = true := by
    have : (N : Int).tmod 8 = 0 := by rw [Int.tmod_eq_emod_of_nonneg (by omega)]; omega
    rw [this]
    rfl
  have j2 : ¬ (N : Int) < 8 * (n : Int) := by omega
  have j3 : (N : Int) ≤ 50000 := by omega
  have j4 : (N : Int) % 8 = 0 := by omega
  clear KP rp q1 hby hN hgp hsn hs8 hsz
  simp only [HN.out]
  go_wp2_with fail
  refine (KG.out).mono ?_
  rintro e w2 ⟨A2, m, er, rfl, hgot, q2⟩
  obtain ⟨_, rfl, hm, hR⟩ : os.length ≤ 64 ∧ er = 0 ∧ m = os.length ∧ Reads w2 A2 (os.map fill) := by
    rcases hgot with h | h
    · exact h
    · have := H64.out; have := HH.out.l; omega
  obtain rfl : m = n := hm.trans HH.out.l
  have HR2 := veil hR
  have VB := veil (VQ.out.trans (q2.mono VQ.out.size))
  have VR2 := veil (VR.out.keep q2)
  have k1 : ¬ (64 : Int) < (m : Int) := by have := H64.out; omega
  clear KG hgot q2 VQ VR hm hR
  go_wp2_with fail
  clear j1 j2 j4
  go_loopw [8, 9] (fun s8 s9 wr => ∃ i : Nat, i ≤ m ∧ s9 = .int .i64 i ∧ s8 = .int .i64 (lastN (os.take i)) ∧ Hid (Below w2.heap.size w2 wr)) (fun _ s9 _ => m - (intOf s9).toNat)
  case atStart => exact ⟨0, Nat.zero_le _, rfl, by simp [lastN], veil (Below.refl _ _)⟩
  case round =>
    rename World => wr
    obtain ⟨i, hi, rfl, rfl, VBR⟩ := hrel
    by_cases hlt : i < m
    · have ij : (i : Int) < (m : Int) := by omega
      obtain ⟨o, ho⟩ : ∃ o, os[i]? = some o := ⟨_, List.getElem?_eq_getElem (by rw [HH.out.l]; exact hlt)⟩
      have hof : (os.map fill)[i]? = some (fill o) := by rw [List.getElem?_map, ho]; rfl
      have Q := VB.out.trans (VBR.out.mono VB.out.size)
      obtain ⟨a, x, rfl, X0, kx, sx0⟩ := HH.out.r i o ho
      obtain ⟨b, y, rfl, Y0, ky, sy0⟩ := HR2.out i (fill o) hof
      have X := X0.keep Q
      have Y := Y0.keep VBR.out
      have sx := sx0.keep Q
      have sy := sy0.keep VBR.out
      clear X0 Y0 sx0 sy0
      have hlast := lastN_take ho
      have hkm := kept_min o.2.length
      have h8 := e8_pos o.2.length
      have hkl := kept8_le o.2.length
      have ho5 := HH.out.len o (List.mem_of_getElem? ho)
      obtain ⟨xk, xA, nx, cx⟩ := x
      obtain ⟨yk, yA, ny, cy⟩ := y
      replace sx : Slc wr (Value.slice xA nx cx) o.2 := sx
      replace sy : Slc wr (Value.slice yA ny cy) (fill o).2 := sy
      replace kx : xk = o.1 := kx
      replace ky : yk = o.1 := ky
      obtain rfl : o.2.length = nx := (slc_of sx).1
      have hny : (fill o).2.length = ny := (slc_of sy).1
      rw [fill_len] at hny
      obtain rfl : yk = xk := ky.trans kx.symm
      obtain ⟨n1, hn1⟩ : ∃ x, kept8 o.2.length = x := ⟨_, rfl⟩
      rw [hn1] at hkm hkl
      have hfr : (fill o).2.take n1 = o.2.take n1 := by
        unfold fill
        rw [hn1]
        exact List.take_left' (by simp; omega)
      have hfd : (fill o).2.drop n1 = List.replicate (ny - n1) 0 := by
        unfold fill
        rw [hn1, List.drop_left' (by simp; omega), ← hny]
      have cyn : ny ≤ cy := (slc_of sy).2.2
      have cxn : o.2.length ≤ cx := (slc_of sx).2.2
      have t1 : Slc wr (Value.slice xA n1 cx) (o.2.take n1) := slc_front (n := o.2.length) (c := cx) sx (k := n1) (by omega)
      have t2 := slc_front sy (k := n1) (by omega)
      have t3 := slc_drop sy (k := n1) (by omega)
      rw [hfr] at t2
      rw [hfd] at t3
      have T1 := veil t1
      have T2 := veil t2
      have T3 := veil t3
      have E1 := fun u => slice_hi (A := yA) (n := ny) (c := cy) (k := n1) (by omega) u
      have E2 := fun u => slice_hi (A := xA) (n := o.2.length) (c := cx) (k := n1) (by omega) u
      have E3 := fun u => slice_lo (A := yA) (n := ny) (c := cy) (k := n1) (by omega) u
      have c1 := X.kind
      have c2 := X.data
      have c3 := Y.kind
      have c4 := Y.data
      have HLAST := veil hlast
      have hny2 : Hid (8 * e8 o.2.length = ny + 2) := veil (by omega)
      have p1 : ¬ (ny : Int) < (n1 : Int) := by omega
      have p2 : ((ny : Int) + 2) % 8 = 0 := by omega
      have p3 : ((n1 : Int) ≤ 2038) := by omega
      have p4 : ¬ (7 : Int) < (ny : Int) - (n1 : Int) := by have : e8 o.2.length = min ((o.2.length + 9) / 8) 255 := rfl; omega
      have p5 : (ny : Int) ≤ 2038 := by omega
      have hmin : Hid (min (o.2.length : Int) 2038 = (n1 : Int)) := veil (by omega)
      have hmin2 : Hid ((o.2.length ≤ 2038 ∧ n1 = o.2.length) ∨ (2038 < o.2.length ∧ n1 = 2038)) := veil (by omega)
      clear X Y sx sy kx ky ho hof t1 t2 t3 hfr hfd hn1 hkl h8 hkm hlast cyn cxn ho5 hny
      generalize hnx : o.2.length = nx at *
      obtain ⟨d, hd⟩ : ∃ x, ny - n1 = x := ⟨_, rfl⟩
      rw [hd] at T3 E3
      have p6 : (ny : Int) - (n1 : Int) = (d : Int) := by omega
      have p7 : decide ((7 : Int) < (d : Int)) = false := by simp; omega
      have p9 : decide (ny < n1) = false := by simp; omega
      have p10 : (IntKind.i64.wrap ((ny : Int) + 2)).tmod 8 = 0 := by
        have : IntKind.i64.wrap ((ny : Int) + 2) = (ny : Int) + 2 := by rw [IntKind.wrap_i64]; omega
        rw [this, Int.tmod_eq_emod_of_nonneg (by omega)]
        exact p2
      have p11 : IntKind.i64.wrap (d : Int) = (d : Int) := by rw [IntKind.wrap_i64]; omega
      clear p1
      have p8 : (d : Int) ≤ 7 := by omega
      have hdm : d ≤ 16777216 := by omega
      have MK := fun u => run_make_u8 d hdm u
      obtain ⟨zs1, hz1⟩ : ∃ z, o.2.take n1 = z := ⟨_, rfl⟩
      rw [hz1] at T1 T2
      have hst : Below wr.heap.size wr wr.drew := below_still (Below.refl _ _) ⟨1, rfl⟩
      have T1d := veil (T1.out.keep hst)
      have T2d := veil (T2.out.keep hst)
      have T3d := veil (T3.out.keep hst)
      obtain ⟨b1, hb1⟩ : ∃ x, b.add (i * 2) = x := ⟨_, rfl⟩
      obtain ⟨a1, ha1⟩ : ∃ x, a.add (i * 2) = x := ⟨_, rfl⟩
      have CC := veil (And.intro c3 (And.intro c4 (And.intro c1 c2)))
      have HD := veil hd
      clear T1 T2 T3 p4 hd hz1 hdm hst hb1 ha1
      go_wp2_with fail
      rw [hmin.out]
      have C0 : Hid (wr.drew.cell? (b.add (i * 2)) = some (.int .u8 yk) ∧ wr.drew.cell? ⟨(b.add (i * 2)).block, (b.add (i * 2)).off + 1, none⟩ = some (.slice yA ny cy) ∧ wr.drew.cell? (a.add (i * 2)) = some (.int .u8 yk) ∧ wr.drew.cell? ⟨(a.add (i * 2)).block, (a.add (i * 2)).off + 1, none⟩ = some (.slice xA nx cx)) := veil CC.out
      clear c1 c2 c3 c4
      go_region_held3 (fun w' => w'.cell? (b.add (i * 2)) = some (.int .u8 yk) ∧ w'.cell? ⟨(b.add (i * 2)).block, (b.add (i * 2)).off + 1, none⟩ = some (.slice yA ny cy) ∧ w'.cell? (a.add (i * 2)) = some (.int .u8 yk) ∧ w'.cell? ⟨(a.add (i * 2)).block, (a.add (i * 2)).off + 1, none⟩ = some (.slice xA nx cx))
        (first | exact C4.out | exact C3.out | exact C2.out | exact C0.out)
        (first
          | (go_at_call 15
             refine (sameBytes_eq yA xA n1 cy cx zs1 wr.drew (slc_of T2d.out).1 (by unfold maxLen; omega) (slc_of T2d.out).2.1 (slc_of T1d.out).2.1).mono ?_
             rintro e v1 ⟨rfl, st1⟩
             have qv1 := below_still (Below.refl wr.drew.heap.size wr.drew) st1
             have C2 := veil (show v1.cell? (b.add (i * 2)) = some (.int .u8 yk) ∧ v1.cell? ⟨(b.add (i * 2)).block, (b.add (i * 2)).off + 1, none⟩ = some (.slice yA ny cy) ∧ v1.cell? (a.add (i * 2)) = some (.int .u8 yk) ∧ v1.cell? ⟨(a.add (i * 2)).block, (a.add (i * 2)).off + 1, none⟩ = some (.slice xA nx cx) from ⟨cell_keep C0.out.1 qv1, cell_keep C0.out.2.1 qv1, cell_keep C0.out.2.2.1 qv1, cell_keep C0.out.2.2.2 qv1⟩)
             have qz1 := below_new v1 (.cells (zeros d) 5)
             have C3 := veil (And.intro (cell_keep C2.out.1 qz1) (And.intro (cell_keep C2.out.2.1 qz1) (And.intro (cell_keep C2.out.2.2.1 qz1) (cell_keep C2.out.2.2.2 qz1))))
             have T3e := veil ((T3d.out.keep qv1).keep qz1)
             have VV := veil (qv1.trans (qz1.mono qv1.size))
             clear qv1 qz1 st1)
          | (go_at_call 15
             refine (sameBytes_eq (cutA yA cy n1) (some ⟨v1.heap.size, 0, none⟩) d (cy - n1) d (List.replicate d 0) (v1.alloc (.cells (zeros d) 5)) (by simp) (by unfold maxLen; omega) (slc_of T3e.out).2.1 (rd_zeros v1 d)).mono ?_
             rintro e v2 ⟨rfl, st2⟩
             have qv2 := below_still (Below.refl (v1.alloc (.cells (zeros d) 5)).heap.size (v1.alloc (.cells (zeros d) 5))) st2
             have C4 := veil (And.intro (cell_keep C3.out.1 qv2) (And.intro (cell_keep C3.out.2.1 qv2) (And.intro (cell_keep C3.out.2.2.1 qv2) (cell_keep C3.out.2.2.2 qv2))))
             have VW := veil (VV.out.trans (qv2.mono VV.out.size))
             clear qv2 st2))
      have VX := veil (VBR.out.trans ((still_below0 VW.out).mono VBR.out.size))
      clear C0 C2 C3 C4 T1d T2d T3d T3e VV VW VBR MK E1 E2 E3 p2 p3 p5 p6 p7 p8 p9 p10 p11 CC
      go_wp2_with fail
      go_roundw
      case rel => exact ⟨i + 1, by omega, by go_num, by first | (rw [HLAST.out, hny2.out]; done) | (rw [HLAST.out, hny2.out]; simp; done) | (rw [HLAST.out, hny2.out]; go_num), VX⟩
      case measure => simp [intOf]; omega
    · obtain rfl : i = m := by omega
      have ij : ¬ (i : Int) < (i : Int) := by omega
      have hfull : os.take i = os := List.take_of_length_le (by rw [HH.out.l]; exact Nat.le_refl _)
      rw [hfull]
      have Q := VB.out.trans (VBR.out.mono VB.out.size)
      by_cases h0 : i = 0
      · have hos : os = [] := List.eq_nil_of_length_eq_zero (by rw [HH.out.l]; exact h0)
        have hN0 : N = 0 := by rw [← HN.out, hos]; rfl
        have KV := veil (lives_true wr (HH.out.m.keep Q))
        have VQ := veil Q
        have b0 : ((i : Int) == 0) = true := by simp; omega
        have b1 : ((N : Int) == 0) = true := by simp; omega
        clear hfull Q h0 hos hN0 j3
        go_wp2_with fail
        refine (KV.out).mono ?_
        rintro e w3 ⟨rfl, q3⟩
        clear KV
        go_wp2_with fail
        go_ret
        exact ⟨rfl, VQ.out.trans (q3.mono VQ.out.size)⟩
      · have b0 : ((i : Int) == 0) = false := by simp; omega
        have hll := last_le os
        rw [HN.out] at hll
        have hl8 : 8 ≤ lastN os := by
          cases hg : os.getLast? with
          | none =>
            rw [List.getLast?_eq_none_iff] at hg
            have := HH.out.l
            rw [hg] at this
            simp at this
            omega
          | some o =>
            unfold lastN
            rw [hg]
            have := e8_pos o.2.length
            simp only
            omega
        obtain ⟨La, hLa⟩ : ∃ x, lastN os = x := ⟨_, rfl⟩
        rw [hLa] at hll hl8 ⊢
        have HLA := veil hLa
        obtain ⟨L1, hL1⟩ : ∃ x, La - 1 = x := ⟨_, rfl⟩
        obtain ⟨r, hr1, hr2, hr3⟩ := rem_cut HH.out.q (n := L1) (by omega)
        obtain ⟨N1, hN1⟩ : ∃ x, N - 1 = x := ⟨_, rfl⟩
        obtain ⟨p, hp⟩ : ∃ x, N1 - r = x := ⟨_, rfl⟩
        have g1 : (La : Int) - 1 = (L1 : Int) := by omega
        have g2 : ¬ (L1 : Int) = 0 := by omega
        have g3 : (N : Int) - 1 = (N1 : Int) := by omega
        have g4 : (N1 : Int) - (r : Int) = (p : Int) := by omega
        have g5 := HH.out.q.1
        have g6 := HH.out.q.2
        have g7 : (La : Int) ≤ 50000 := by omega
        have ES := fun u => slice_hi (A := some ⟨gp, 0, none⟩) (n := N) (c := N) (k := p) (by omega) u
        have hrow := VR2.out.keep VBR.out
        have hcut := goes_cut os [] [] p (by rw [HN.out]; simp; omega) (by rw [HN.out, HLA.out]; simp; omega)
        simp only [List.nil_append, List.length_nil] at hcut
        have hpN : p ≤ (putO os).length := by have := HN.out; unfold sizeO at this; omega
        have KC := codeGet (some ⟨gp, 0, none⟩) p N ((putO os).take p) wr (slc_part hrow (fun j u hj => by
          rw [Nat.zero_add]
          have : bv ((putO os).take p) = (bv (putO os)).take p := by simp [bv]
          rw [this, List.getElem?_take] at hj
          split at hj
          · exact hj
          · cases hj) (by rw [List.length_take]; omega) (by omega)) (HBY.out.take p) (by rw [List.length_take]; omega) (by omega)
        rw [hcut] at KC
        have KC : Hid (Calls Tryd.prog 23 #[.slice (some ⟨gp, 0, none⟩) p N] wr fun e w' => e = .returned (.tuple #[.slice none 0 0, .int .i64 4]) ∧ Below wr.heap.size wr w') := veil KC
        have VQ := veil Q
        clear hfull Q h0 hll hl8 hLa hL1 hr3 hN1 hp hrow hcut hpN
        go_wp2_with fail
        refine (KC.out).mono ?_
        rintro e w3 ⟨rfl, q3⟩
        have VQ3 := veil (VQ.out.trans (q3.mono VQ.out.size))
        have KV := veil (lives_true w3 (HH.out.m.keep VQ3.out))
        clear KC q3 VQ ES
        go_wp2_with fail
        refine (KV.out).mono ?_
        rintro e w4 ⟨rfl, q4⟩
        clear KV
        go_wp2_with fail
        go_ret
        exact ⟨rfl, VQ3.out.trans (q4.mono VQ3.out.size)⟩

theorem own : ownKnob Tryd.prog.godebug = none := by kernel_rfl
theorem readable : ∀ t ∈ Tryd.f6.params.toList, Tryd.prog.readableRec t = true ∧ t < Tryd.prog.types.size := by
  rw [Tryd.params6]
  intro t ht
  simp at ht
  rcases ht with rfl | rfl
  · exact ⟨by kernel_rfl, of_decide_eq_true (by kernel_rfl)⟩
  · exact ⟨by kernel_rfl, of_decide_eq_true (by kernel_rfl)⟩

set_option maxRecDepth 100000 in
theorem lifted (os : Os) (started : os.Started) (H : Type) (enc : TypeId × Value → H) :
    ReturnsInHanded {} Tryd.checked os 6 .any (fun w args => (Rows.optionsBackSpec.pre enc Tryd.prog Tryd.f6 [] false w args ∧ laidMetH Tryd.prog laid2 w) ∧ sizedMet enc Tryd.prog Tryd.f6 (OpenSpec.ofChange Rows.optionsBackSpec) false w args)
      (Rows.optionsBackSpec.post enc Tryd.prog Tryd.f6 false true false false) := by
  refine returns_sized (C := Tryd.checked) (X := fun w _ => laidMetH Tryd.prog laid2 w) (fun _ _ _ hh h => h.of_heap hh) own started (by kernel_rfl) Tryd.func6
    (ChangeSpec.witness_shaped (enc := enc) (C := Tryd.checked) (os := os) (X := fun w _ => laidMetH Tryd.prog laid2 w) false (World.laidAll Tryd.prog os laid2) #[.slice none 0 0, .int .u16 0] 8 (World.laidAll_os _ _ _) (World.shaped_of_ZipB (by kernel_rfl) (by kernel_rfl)) (by kernel_rfl) (by kernel_rfl) (by kernel_rfl) (door_met os _)) ?_
  intro W base args ds gs before hval0 hW hL hSh hsz0
  have hval : ∀ (j : Nat) t v, Tryd.f6.params[j]? = some t → args[j]? = some v → Value.okWide Tryd.prog W .any base t v := hval0
  have hW' := hW
  obtain ⟨p, q, hA0, hV, rfl, _, _⟩ := hW
  have hA : DataW.TrodAll enc Tryd.prog W 0 (fun _ => true) true Tryd.f6.params.toList args.toList ds p := hA0
  rw [Tryd.params6] at hA hval
  obtain ⟨v0, vs0, d0, ds0, p0, q0, hargs, rfl, rfl, h0, r0⟩ := trodAll_cons hA
  obtain ⟨v1, vs1, d1, ds1, p1, q1, rfl, rfl, rfl, h1, r1⟩ := trodAll_cons r0
  obtain ⟨rfl, rfl, rfl⟩ := trodAll_nil r1
  obtain rfl : args = #[v0, v1] := by cases args; simp_all
  obtain ⟨rfl, rfl⟩ := trodVars_none hV
  have hk := mx_met hL hSh
  obtain ⟨A, n, c, os, e0, _, h2, hl, hr, hf⟩ := open_options (opens_arg h0 (slim_of hsz0 (j := 0) rfl rfl))
  obtain rfl : v0 = .slice A n c := by
    have := hval 0 22 v0 rfl rfl
    obtain ⟨A', n', c', rfl⟩ := okWide_slice Tryd.underlying22 this
    simpa [Value.cells] using e0
  obtain ⟨q, rfl, rfl, rfl, w1⟩ := open_int Tryd.underlying71 (hval 1 71 v1 rfl rfl) h1
  have hq : 0 ≤ q ∧ q ≤ 65535 := by simpa [Lit.wf, IntKind.min, IntKind.max, IntKind.signed, IntKind.bits] using w1
  have hw : Calls Tryd.prog 6 #[.slice A n c, .int .u16 q] W fun e w' => e = .returned (.bool true) ∧ Below W.heap.size W w' := by
    by_cases hg : 5000 < n + sumL os
    · exact walk_great A n c os q W hl h2 hr hf hk hg
    have H : Fits W A n os q := ⟨hl, hr, hf, by omega, hq, hk⟩
    by_cases h64 : 64 < n
    · exact walk_many A n c os q W H h64
    · exact walk_few A n c os q W H (by omega)
  refine hw.mono fun e W' ⟨he, hb⟩ => ?_
  subst he
  exact ⟨_, rfl, law_post (by kernel_rfl) rfl rfl Tryd.underlying4 readable hW' rfl hb⟩

/-- OptionsBack: the row, as given -/
theorem row : Rows.OptionsBackSaid :=
  OpenClaim.holds_of_wide 6 Tryd.f6 rfl rfl rfl rfl rfl rfl rfl ⟨rfl, rfl, rfl, rfl, rfl⟩ rfl rfl rfl rfl rfl (by kernel_rfl) Tryd.func6 (by kernel_rfl)
    (of_decide_eq_true (by kernel_rfl)) (by unfold Func.isWrapper; first | (rw [if_pos (by decide +kernel)]; kernel_rfl) | (rw [if_neg (by decide +kernel)]; exact ⟨rfl, rfl⟩))
    (fun os started H enc _ => lifted os started H enc)

/-- OptionsBack: the tied card, as given -/
theorem holds : Rows.OptionsBackCardSaid :=
  Claim7.holds_tied_plain_at .later [] [.data, .pinned] true Rows.optionsBackCard.stood.harness false
    row (fun _ h => by cases h) (by kernel_rfl) (fun _ h => by cases h) optionsBack_row_tie rfl ⟨rfl, rfl⟩ (by kernel_rfl) rfl
    (fun f fn hf hfn => by
      obtain rfl : f = 6 := Option.some.inj ((show Tryd.prog.funcNamed "sojourner/sojournerlaw10.OptionsBack" = some 6 by kernel_rfl).symm.trans hf) |>.symm
      obtain rfl : fn = Tryd.f6 := (Option.some.inj (Tryd.func6.symm.trans hfn)).symm
      exact ⟨by kernel_rfl, fun j t ht => by
        rw [Tryd.params6] at ht
        have hm : t ∈ [22, 71] := by simpa using Array.mem_of_getElem? ht
        have hall : ([22, 71].all fun u => !Tryd.prog.wantsStandIn u) = true := by kernel_rfl
        exact (show Tryd.prog.wantsStandIn t = false by simpa using List.all_eq_true.1 hall t hm)⟩)
    (by kernel_rfl)

#print axioms holds
end Go.Proofs.YtdebifkefpclaaaDoor.optionsBack
