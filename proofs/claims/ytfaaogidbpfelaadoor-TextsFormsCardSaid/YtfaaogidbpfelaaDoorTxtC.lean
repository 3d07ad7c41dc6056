/-
  What decimals answers: four bytes as two groups.
  Conditions: a text shorter than 4294967281 bytes.
-/
import Derived.Test.YtfaaogidbpfelaaDoorTxtB
namespace Go.Proofs.YtfaaogidbpfelaaDoor.Tx
open Go.RowKit

/-- bytes as decimals, one by one -/
def f4 : Nat → List Nat → Str → Option (List Nat)
  | 0, vs, _ => some vs
  | k + 1, vs, t => match dec (Lib.cut t [46]).1 with
    | none => none
    | some n => if (Lib.cut t [46]).2.2 = decide (0 < k) then f4 k (vs ++ [n]) (Lib.cut t [46]).2.1 else none
def two : Option (List Nat) → Option (List Nat)
  | some [a, b, c, d] => some [a * 256 + b, c * 256 + d]
  | _ => none
theorem fours_eq (s : Str) : fours s = two (f4 4 [] s) := by
  unfold fours
  by_cases h0 : (46 : UInt8) ∈ s
  · obtain ⟨a, s, rfl, ha⟩ := split_at h0
    rw [words_app ha]
    simp only [f4, cut_yes ha]
    by_cases h1 : (46 : UInt8) ∈ s
    · obtain ⟨b, s, rfl, hb⟩ := split_at h1
      rw [words_app hb]
      simp only [cut_yes hb]
      by_cases h2 : (46 : UInt8) ∈ s
      · obtain ⟨c, s, rfl, hc⟩ := split_at h2
        rw [words_app hc]
        simp only [cut_yes hc]
        by_cases h3 : (46 : UInt8) ∈ s
        · obtain ⟨d, s, rfl, hd⟩ := split_at h3
          rw [words_app hd]
          simp only [cut_yes hd]
          have := words_ne 46 s
          cases hw : words 46 s with
          | nil => exact absurd hw this
          | cons x y => cases dec a <;> cases dec b <;> cases dec c <;> cases dec d <;> simp [two]
        · rw [words_none h3]
          simp only [cut_no h3]
          cases dec a <;> cases dec b <;> cases dec c <;> cases dec s <;> simp [two]
      · rw [words_none h2]
        simp only [cut_no h2]
        cases dec a <;> cases dec b <;> cases dec s <;> simp [two]
    · rw [words_none h1]
      simp only [cut_no h1]
      cases dec a <;> cases dec s <;> simp [two]
  · rw [words_none h0]
    simp only [f4, cut_no h0]
    cases dec s <;> simp [two]
theorem dec_le {s : Str} {n : Nat} (h : dec s = some n) : n ≤ 255 := by
  unfold dec at h
  split at h
  · cases h
  · split at h
    · split at h
      · injection h with h; omega
      · cases h
    · cases h
theorem cut_len {c : UInt8} {t a b : Str} {f : Bool} (h : Lib.cut t [c] = (a, b, f)) : a.length ≤ t.length ∧ b.length ≤ t.length := by
  by_cases h0 : c ∈ t
  · obtain ⟨x, y, rfl, hx⟩ := split_at h0
    rw [cut_yes hx] at h
    injection h with h1 h2
    injection h2 with h2 h3
    subst h1 h2
    simp; omega
  · rw [cut_no h0] at h
    injection h with h1 h2
    injection h2 with h2 h3
    subst h1 h2
    simp

theorem or_u16 {a b : Nat} (ha : a ≤ 255) (hb : b ≤ 255) : bits .or .u16 ((a : Int) * 256) b = ((a * 256 + b : Nat) : Int) := by
  unfold bits
  have e1 : ((a : Int) * 256) = ((a * 256 : Nat) : Int) := by omega
  have h1 : (a * 256 ||| b) = a * 256 + b := by
    have := Nat.two_pow_add_eq_or_of_lt (i := 8) (b := b) (by omega) a
    rw [show 2 ^ 8 * a = a * 256 by omega] at this
    exact this.symm
  have h2 : ((BitVec.ofInt IntKind.u16.bits ((a : Int) * 256) ||| BitVec.ofInt IntKind.u16.bits (b : Int)).toNat) = a * 256 + b := by
    rw [e1, BitVec.ofInt_natCast, BitVec.ofInt_natCast, BitVec.toNat_or, BitVec.toNat_ofNat, BitVec.toNat_ofNat, Nat.mod_eq_of_lt (by show _ < 2 ^ 16; omega), Nat.mod_eq_of_lt (by show _ < 2 ^ 16; omega), h1]
  simp only
  rw [h2, IntKind.wrap_u16]
  omega

def ints (l : List Nat) : List Int := l.map fun n : Nat => (n : Int)
theorem ints_len (l : List Nat) : (ints l).length = l.length := by simp [ints]
theorem own16 (w : World) {base : Nat} (l : List Nat) (h : base ≤ w.heap.size) (hl : l.length ≤ maxLen) : W16.Own (w.alloc (.cells (W16.bv (ints l)).toArray 36)) base (.slice (some ⟨w.heap.size, 0, none⟩) l.length l.length) (ints l) := by
  refine ⟨by simp [W16.bv], .inr ⟨w.heap.size, l.length, (W16.bv (ints l)).toArray, by rw [ints_len], h, heap_alloc_new w _, by rw [ints_len]; exact Nat.le_refl _, hl, by simp [W16.bv, ints], ?_⟩⟩
  rw [List.take_of_length_le (by simp [W16.bv])]
/-- groups, or none -/
def GivesG (w : World) (o : Option (List Nat)) (e : Ending) (w' : World) : Prop :=
  ∃ A m c, e = .returned (.tuple #[.slice A m c, .bool o.isSome]) ∧ m = (o.getD []).length ∧ W16.Own w' w.heap.size (.slice A m c) (ints (o.getD [])) ∧ Below w.heap.size w w'
theorem gives_none {w w' : World} (h : Below w.heap.size w w') : GivesG w none (.returned (.tuple #[.slice none 0 0, .bool false])) w' := ⟨none, 0, 0, rfl, rfl, W16.own_nil _ _, h⟩

/-- four bytes in their block, the rest noughts -/
def row4 (vs : List Nat) : Array Value := (bv (ints vs ++ List.replicate (4 - vs.length) 0)).toArray
theorem row4_set (vs : List Nat) (n : Nat) (h : vs.length < 4) : (row4 vs).setIfInBounds vs.length (.int .u8 n) = row4 (vs ++ [n]) := by
  unfold row4
  apply Array.ext'
  simp only [Array.toList_setIfInBounds, bv_set, ints]
  congr 1
  obtain ⟨k, hk⟩ : ∃ k, 4 - vs.length = k + 1 := ⟨3 - vs.length, by omega⟩
  have hk2 : 4 - (vs.length + 1) = k := by omega
  simp [hk, hk2, List.replicate_succ]

theorem mx_set {w : World} (h : Mx w) {g : Nat} (hg : 0 < g) (i : Nat) (u : Value) : Mx (w.setCell ⟨g, i, none⟩ u) := by
  obtain ⟨m, hm⟩ := h
  refine ⟨m, ?_⟩
  rw [← hm]
  exact World.cell?_of_block (Below.heap_setCell w ⟨g, i, none⟩ u _ (by show 0 ≠ g; omega))
theorem Mx.lt {w : World} (h : Mx w) : 0 < w.heap.size := by
  obtain ⟨m, hm⟩ := h
  exact block_lt_of_cell hm

set_option maxRecDepth 100000 in
set_option maxHeartbeats 2000000 in
theorem decimals_any (s : Str) (w : World) (hs : s.length < 4294967281) (hm : Mx w) : Calls Tryd.prog 41 #[.string (bs s)] w (GivesG w (fours s)) := by
  rw [fours_eq]
  have hg0 := hm.lt
  have hM := veil (hm.keep (below_new w (.cells (row4 []) 90)))
  have hB := veil (below_new w (.cells (row4 []) 90))
  have hR := veil (row_new (w := w) (g := w.heap.size) (cs := row4 []) (t := 90) rfl)
  have e0 : row4 [] = #[.int .u8 0, .int .u8 0, .int .u8 0, .int .u8 0] := rfl
  clear hm
  go_enter Tryd.func41, Tryd.ntmps41
  go_wp2_with fail
  rw [← e0]
  clear e0
  generalize w.alloc (.cells (row4 []) 90) = w0 at *
  generalize hg : w.heap.size = g at *
  go_loopw [0, 11] (fun u i wr => ∃ (j : Nat) (vs : List Nat) (t : Str), j ≤ 4 ∧ u = .string (bs t) ∧ i = .int .i64 j ∧ Hid (vs.length = j ∧ (∀ v ∈ vs, v ≤ 255) ∧ t.length < 4294967281 ∧ Below g w wr ∧ Row wr g 90 (row4 vs) ∧ Mx wr ∧ f4 (4 - j) vs t = f4 4 [] s)) (fun _ i _ => 4 - (intOf i).toNat)
  case atStart => exact ⟨0, [], s, by omega, rfl, rfl, rfl, by simp, hs, hB.out, hR.out, hM.out, rfl⟩
  case round =>
    obtain ⟨j, vs, t, hj, rfl, rfl, hH⟩ := hrel
    by_cases hlt : j < 4
    · obtain ⟨hvl, hv, ht, hb, hr, hm, hf⟩ := hH.out
      clear hH hM hB hR
      obtain ⟨one, rest, more, hc⟩ : ∃ one rest more, Lib.cut t [46] = (one, rest, more) := ⟨_, _, _, rfl⟩
      have hl := cut_len hc
      have K1 := veil (cut_any t [46] wr ht hm hc)
      have K2 := veil (decimal_any one)
      obtain ⟨k, hk⟩ : ∃ k, 4 - j = k + 1 := ⟨3 - j, by omega⟩
      have HF : Hid (f4 4 [] s = match dec one with | none => none | some n => if more = decide (0 < k) then f4 k (vs ++ [n]) rest else none) := by
        unfold Hid
        rw [← hf, hk, f4, hc]
      have e1 : bs [46] = ⟨#[46]⟩ := rfl
      rw [e1] at K1
      have HB := veil hb
      have HR := veil hr
      have HM := veil hm
      have HV := veil hv
      have HT := veil ht
      have HL := veil hl
      clear hb hr hm hv ht hl hf e1 hc
      go_wp2_with fail
      refine (K1.out).mono ?_
      rintro e w1 ⟨rfl, q, rfl⟩
      clear K1
      have HB := veil (below_still HB.out ⟨q, rfl⟩)
      have HR : Hid (Row (wr.drewN q) g 90 (row4 vs)) := HR
      have HM : Hid (Mx (wr.drewN q)) := HM
      go_wp2_with fail
      cases ho : dec one with
      | none =>
        have K : ∀ v, Calls Tryd.prog 55 #[.string (bs one)] v fun e w' => e = .returned (.tuple #[.int .u8 0, .bool false]) ∧ Below v.heap.size v w' := fun v => by
          have := K2.out v
          rwa [ho] at this
        have HF := veil (show f4 4 [] s = none by rw [HF.out, ho])
        clear ho K2
        refine (K _).mono ?_
        rintro e w1 ⟨rfl, hb⟩
        have HB := veil (HB.out.trans (hb.mono (hg ▸ HB.out.size)))
        clear hb K
        go_wp2_with fail
        go_ret2
        rw [HF.out]
        exact gives_none (hg ▸ HB.out)
      | some n =>
        have hn := dec_le ho
        have K : ∀ v, Calls Tryd.prog 55 #[.string (bs one)] v fun e w' => e = .returned (.tuple #[.int .u8 n, .bool true]) ∧ Below v.heap.size v w' := fun v => by
          have := K2.out v
          rwa [ho] at this
        have HF := veil (show f4 4 [] s = if more = decide (0 < k) then f4 k (vs ++ [n]) rest else none by rw [HF.out, ho])
        clear ho K2
        refine (K _).mono ?_
        rintro e w1 ⟨rfl, hb⟩
        have HM := veil (HM.out.keep hb)
        have HR := veil (HR.out.keep hb)
        have HB := veil (HB.out.trans (hb.mono (hg ▸ HB.out.size)))
        clear hb K
        have hn' : (n : Int) ≤ 255 := by omega
        have hcell : w1.cell? ⟨g, j, none⟩ = some (.int .u8 ((ints vs ++ List.replicate (4 - vs.length) 0).getD j 0)) := by
          rw [HR.out.cell]
          unfold row4
          rw [List.getElem?_toArray]
          exact bv_get _ j (by simp [ints]; omega)
        have hfro : w1.frozen? ⟨g, j, none⟩ = false := HR.out.frozen j
        generalize (ints vs ++ List.replicate (4 - vs.length) 0).getD j 0 = z at hcell
        by_cases hk0 : 0 < k
        · have hj1 : (j : Int) + 1 < 4 := by omega
          cases more with
          | true =>
            have HF := veil (show f4 k (vs ++ [n]) rest = f4 4 [] s by rw [HF.out, if_pos (by simp [hk0])])
            have HR := veil (row4_set vs n (by rw [hvl]; omega) ▸ HR.out.set vs.length (.int .u8 n))
            rw [hvl] at HR
            have HB := veil (below_gb HB.out (gb_set w1 g j (.int .u8 n)) (hg ▸ HB.out.size) (Nat.le_refl _))
            have HM := veil (mx_set HM.out hg0 j (.int .u8 n))
            go_wp2_with fail
            generalize w1.setCell ⟨g, j, none⟩ (.int .u8 n) = w2 at *
            go_roundw
            case rel =>
              refine ⟨j + 1, vs ++ [n], rest, by omega, rfl, by go_num, by simp [hvl], fun v hv => ?_, Nat.lt_of_le_of_lt HL.out.2 HT.out, HB.out, HR.out, HM.out, ?_⟩
              · rcases List.mem_append.1 hv with hv | hv
                · exact HV.out v hv
                · simp at hv; omega
              · rw [show 4 - (j + 1) = k by omega]
                exact HF.out
            case measure => simp [intOf]; omega
          | false =>
            have HF := veil (show f4 4 [] s = none by rw [HF.out, if_neg (by simp [hk0])])
            go_wp2_with fail
            go_ret2
            rw [HF.out]
            exact gives_none (hg ▸ HB.out)
        · have hj1 : decide ((j : Int) + 1 < 4) = false := by simp; omega
          cases more with
          | true =>
            have HF := veil (show f4 4 [] s = none by rw [HF.out, if_neg (by simp [hk0])])
            go_wp2_with fail
            go_ret2
            rw [HF.out]
            exact gives_none (hg ▸ HB.out)
          | false =>
            have HF := veil (show f4 k (vs ++ [n]) rest = f4 4 [] s by rw [HF.out, if_pos (by simp [hk0])])
            have HR := veil (row4_set vs n (by rw [hvl]; omega) ▸ HR.out.set vs.length (.int .u8 n))
            rw [hvl] at HR
            have HB := veil (below_gb HB.out (gb_set w1 g j (.int .u8 n)) (hg ▸ HB.out.size) (Nat.le_refl _))
            have HM := veil (mx_set HM.out hg0 j (.int .u8 n))
            go_wp2_with fail
            generalize w1.setCell ⟨g, j, none⟩ (.int .u8 n) = w2 at *
            go_roundw
            case rel =>
              refine ⟨j + 1, vs ++ [n], rest, by omega, rfl, by go_num, by simp [hvl], fun v hv => ?_, Nat.lt_of_le_of_lt HL.out.2 HT.out, HB.out, HR.out, HM.out, ?_⟩
              · rcases List.mem_append.1 hv with hv | hv
                · exact HV.out v hv
                · simp at hv; omega
              · rw [show 4 - (j + 1) = k by omega]
                exact HF.out
            case measure => simp [intOf]; omega
    · obtain ⟨hvl, hv, ht, hb, hr, hm, hf⟩ := hH.out
      have hf2 : f4 4 [] s = some vs := by rw [← hf, show 4 - j = 0 by omega, f4]
      clear hf
      obtain rfl : j = 4 := by omega
      match vs, hvl with
      | [a, b, c, d], _ =>
        have HF := veil hf2
        have hr' : Row wr g 90 #[.int .u8 a, .int .u8 b, .int .u8 c, .int .u8 d] := hr
        have c0 := hr'.cell 0
        have c1 := hr'.cell 1
        have c2 := hr'.cell 2
        have c3 := hr'.cell 3
        simp at c0 c1 c2 c3
        have ha := hv a (by simp)
        have hbb := hv b (by simp)
        have hc := hv c (by simp)
        have hd := hv d (by simp)
        have HB := veil hb
        have hrun := own16 wr (base := g) [a * 256 + b, c * 256 + d] (hg ▸ HB.out.size) (by simp [maxLen])
        have HW := veil hrun
        have O1 := veil (or_u16 ha hbb)
        have O2 := veil (or_u16 hc hd)
        clear hf2 hH hM hB hR hr hr' hm ht hv hb hrun
        go_wp2_with fail
        rw [O1.out, O2.out]
        go_ret2
        rw [HF.out]
        exact ⟨_, 2, 2, rfl, rfl, hg ▸ HW.out, hg ▸ HB.out.alloc (hg ▸ HB.out.size) _⟩
end Go.Proofs.YtfaaogidbpfelaaDoor.Tx
