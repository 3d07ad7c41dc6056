/-
  A cutter and the document's cutter, side by side: whatever is asked of both, they answer alike and stay alike.
  Conditions: each lies in a block of its own; what is left of both is the same; at most 5000 bytes.
-/
import Derived.Test.YtddmjenhpbbocaaRefB
import Derived.Test.YtddmjenhpbbocaaBookC
namespace Go.Proofs.Ytddmjenhpbbocaa
open Go.RowKit

/-- but for blocks of these types all is as it was -/
def Fr (ts : List TypeId) (w w' : World) : Prop := ∀ x t cs, Row w x t cs → t ∉ ts → Row w' x t cs
theorem Fr.of_gb {w w' : World} {g : Nat} {t : TypeId} {cs : Array Value} (hg : w.grownBy w' (some g)) (hr : Row w g t cs) : Fr [t] w w' := fun x t' cs' hx ht =>
  hx.gb hg (fun e => by
    injection e with e
    subst e
    unfold Row at hr hx
    rw [hr] at hx
    injection hx with hx
    injection hx with _ h2
    exact ht (by simp [h2]))
theorem Fr.of_below {w w' : World} (hb : Below w.heap.size w w') (ts : List TypeId) : Fr ts w w' := fun _ _ _ hx _ => hx.keep hb
theorem Fr.of_bf {base : Nat} {w w' : World} (hb : BF base w w') : Fr [32, 64] w w' := fun x t cs hx ht => hb.2 x t cs hx (fun e => ht (by simp [e])) (fun e => ht (by simp [e]))

/-- the cutter, that stands at place p of bytes zs, which lie in block d -/
def CutS (w : World) (g d : Nat) (zs : List Int) (p : Nat) (ok : Bool) : Prop :=
  Row w d 5 (bv zs).toArray ∧ Byt zs ∧ p ≤ zs.length ∧
  (ok = true → ∃ o c, Row w g 48 #[.slice (some ⟨d, o, none⟩) (zs.length - p) c, .bool true] ∧ zs.length - p ≤ c ∧ (p < zs.length → o = p)) ∧ (ok = false → Spoilt w g)
/-- the slice at A reads as these bytes, which lie in blocks of bytes -/
def BRd (w : World) (A : Option Addr) (zs : List Int) : Prop := ∀ j, j < zs.length → ∃ b o cs, A = some ⟨b, o, none⟩ ∧ Row w b 5 cs ∧ cs[o + j]? = some (.int .u8 (zs.getD j 0))
/-- the document's cutter, that stands at place p of bytes zs -/
def RefS (w : World) (h : Nat) (zs : List Int) (p : Nat) (ok : Bool) : Prop :=
  (ok = true → ∃ A n c, RRow w h A n c false ∧ n = zs.length - p ∧ n ≤ c ∧ BRd w A (zs.drop p)) ∧ (ok = false → RRow w h none 0 0 true)

section
variable {w w' : World} {g h d p : Nat} {zs : List Int} {ok : Bool}
theorem BRd.rd {A : Option Addr} (hb : BRd w A zs) : Rd w A zs := fun j hj => by
  obtain ⟨b, o, cs, e, hr, hc⟩ := hb j hj
  refine ⟨_, e, ?_⟩
  rw [show (⟨b, o, none⟩ : Addr).add j = ⟨b, o + j, none⟩ by simp [Addr.add], hr.cell, hc]
theorem BRd.fr {A : Option Addr} {ts : List TypeId} (hb : BRd w A zs) (hf : Fr ts w w') (ht : 5 ∉ ts) : BRd w' A zs := fun j hj => by
  obtain ⟨b, o, cs, e, hr, hc⟩ := hb j hj
  exact ⟨b, o, cs, e, hf _ _ _ hr ht, hc⟩
theorem CutS.fr {ts : List TypeId} (hs : CutS w g d zs p ok) (hf : Fr ts w w') (h5 : 5 ∉ ts) (h48 : 48 ∉ ts) : CutS w' g d zs p ok := by
  obtain ⟨a1, a2, a3, a4, a5⟩ := hs
  refine ⟨hf _ _ _ a1 h5, a2, a3, fun e => ?_, fun e => hf _ _ _ (a5 e) h48⟩
  obtain ⟨o, c, hr, hc, ho⟩ := a4 e
  exact ⟨o, c, hf _ _ _ hr h48, hc, ho⟩
theorem RefS.fr {ts : List TypeId} (hs : RefS w h zs p ok) (hf : Fr ts w w') (h5 : 5 ∉ ts) (h39 : 39 ∉ ts) : RefS w' h zs p ok := by
  refine ⟨fun e => ?_, fun e => hf _ _ _ (hs.2 e) h39⟩
  obtain ⟨A, n, c, hr, hn, hc, hb⟩ := hs.1 e
  exact ⟨A, n, c, hf _ _ _ hr h39, hn, hc, hb.fr hf h5⟩
theorem CutS.cut (hs : CutS w g d zs p true) : ∃ o c, Cut w g d o c (zs.drop p) ∧ (p < zs.length → o = p) := by
  obtain ⟨a1, a2, a3, a4, _⟩ := hs
  obtain ⟨o, c, hr, hc, ho⟩ := a4 rfl
  refine ⟨o, c, ⟨by simpa using hr, ?_, by simpa using hc, a2.drop p, row_ne a1 hr (by decide)⟩, ho⟩
  refine rd_row a1 (fun j hj => ?_)
  have hj' : p + j < zs.length := by simp at hj; omega
  rw [ho (by omega), bv_get zs (p + j) hj']
  simp [List.getD]
theorem CutS.row48 (hs : CutS w g d zs p ok) : ∃ cs, Row w g 48 cs := by
  obtain ⟨_, _, _, a4, a5⟩ := hs
  cases ok with
  | true => obtain ⟨o, c, hr, _⟩ := a4 rfl; exact ⟨_, hr⟩
  | false => exact ⟨_, a5 rfl⟩
theorem RefS.row39 (hs : RefS w h zs p ok) : ∃ cs, Row w h 39 cs := by
  cases ok with
  | true => obtain ⟨A, n, c, hr, _⟩ := hs.1 rfl; exact ⟨_, hr⟩
  | false => exact ⟨_, hs.2 rfl⟩
/-- behind k bytes more -/
theorem CutS.next {o c k : Nat} (hs : CutS w g d zs p true) (hf : Fr [48] w w') (hk : k ≤ zs.length - p) (hcap : zs.length - p ≤ c) (ho : p < zs.length → o = p) (hc : Cut w' g d (step o c k) (c - k) ((zs.drop p).drop k)) : CutS w' g d zs (p + k) true := by
  obtain ⟨a1, a2, a3, a4, a5⟩ := hs
  refine ⟨hf _ _ _ a1 (by decide), a2, by omega, fun _ => ⟨step o c k, c - k, ?_, by omega, fun hp => ?_⟩, fun e => by cases e⟩
  · have := hc.row
    simpa [Nat.sub_sub] using this
  · unfold step
    rw [if_neg (by omega), ho (by omega)]
theorem CutS.gone (hs : CutS w g d zs p ok) (hf : Fr [48] w w') (hg : Spoilt w' g) : CutS w' g d zs p false :=
  ⟨hf _ _ _ hs.1 (by decide), hs.2.1, hs.2.2.1, (fun e => by cases e), fun _ => hg⟩
end

/-- what Num comes to: the number, the place, and whether it is sound -/
def numRes (zs : List Int) (p : Nat) (ok : Bool) (n : Int) : Int × Nat × Bool :=
  if ok = true ∧ 1 ≤ n ∧ n ≤ 8 ∧ n ≤ (zs.length - p : Nat) then (num ((zs.drop p).take n.toNat), p + n.toNat, true) else (0, p, false)
/-- what Bytes comes to -/
def bytRes (zs : List Int) (p : Nat) (ok : Bool) (n : Int) : List Int × Nat × Bool :=
  if ok = true ∧ 0 ≤ n ∧ n ≤ (zs.length - p : Nat) then ((zs.drop p).take n.toNat, p + n.toNat, true) else ([], p, false)

section
variable {w : World} {g h d p : Nat} {zs : List Int} {ok : Bool}
theorem CutS.numS (hs : CutS w g d zs p ok) (n : Int) :
    Calls Try.prog 23 #[.pointer (some ⟨g, 0, none⟩), .int .i64 n] w (After (CutS · g d zs (numRes zs p ok n).2.1 (numRes zs p ok n).2.2) g w (.int .u64 (numRes zs p ok n).1)) := by
  obtain ⟨cs, hr⟩ := hs.row48
  cases ok with
  | false =>
    have e : numRes zs p false n = (0, p, false) := by simp [numRes]
    rw [e]
    exact ((hs.2.2.2.2 rfl).num_ n).mono fun _ w' ⟨he, hw⟩ => ⟨he, by subst hw; exact World.grownBy.refl _ _, by subst hw; exact hs⟩
  | true =>
    obtain ⟨o, c, hc, ho⟩ := hs.cut
    have hcap : zs.length - p ≤ c := by have := hc.cap; simpa using this
    by_cases hn : 1 ≤ n ∧ n ≤ 8 ∧ n ≤ (zs.length - p : Nat)
    · obtain ⟨k, rfl⟩ := Int.eq_ofNat_of_zero_le (show 0 ≤ n by omega)
      have e : numRes zs p true (k : Int) = (num ((zs.drop p).take k), p + k, true) := by unfold numRes; rw [if_pos ⟨rfl, hn⟩, Int.toNat_natCast]
      rw [e]
      exact (hc.num_ k (by omega) (by omega) (by simp; omega)).mono fun _ w' ⟨he, hg, hc'⟩ => ⟨he, hg, hs.next (Fr.of_gb hg hc.row) (by omega) hcap ho hc'⟩
    · have e : numRes zs p true n = (0, p, false) := by unfold numRes; rw [if_neg (fun h => hn h.2)]
      rw [e]
      exact (hc.num_over n (by simp; omega)).mono fun _ w' ⟨he, hg, hc'⟩ => ⟨he, hg, hs.gone (Fr.of_gb hg hc.row) hc'⟩

/-- what Bytes, or Rest, answers: bytes of block d, from place p on -/
def BAns (g d p : Nat) (w : World) (xs : List Int) (P : World → Prop) (e : Ending) (w' : World) : Prop :=
  ∃ A, e = .returned (.slice A xs.length xs.length) ∧ (A = none ∨ ∃ o, A = some ⟨d, o, none⟩ ∧ (xs ≠ [] → o = p)) ∧ (xs ≠ [] → A ≠ none) ∧ BRd w' A xs ∧ w.grownBy w' (some g) ∧ P w'

theorem CutS.in_ {o c k : Nat} (hs : CutS w g d zs p true) (hc : Cut w g d o c (zs.drop p)) (ho : p < zs.length → o = p) (hk : k ≤ zs.length - p) {e : Ending} {w' : World} (he : e = .returned (.slice (some ⟨d, o, none⟩) k k))
    (hg : w.grownBy w' (some g)) (hc' : Cut w' g d (step o c k) (c - k) ((zs.drop p).drop k)) : BAns g d p w ((zs.drop p).take k) (CutS · g d zs (p + k) true) e w' := by
  have hcap : zs.length - p ≤ c := by have := hc.cap; simpa using this
  have hf := Fr.of_gb hg hc.row
  have hl : ((zs.drop p).take k).length = k := by simp; omega
  have hpo : (zs.drop p).take k ≠ [] → o = p := fun h => ho (by
    rcases Nat.lt_or_ge p zs.length with h1 | h1
    · exact h1
    · exact absurd (by rw [List.drop_eq_nil_of_le h1]; simp) h)
  refine ⟨some ⟨d, o, none⟩, by rw [hl]; exact he, .inr ⟨o, rfl, hpo⟩, fun _ => by simp, ?_, hg, hs.next hf hk hcap ho hc'⟩
  intro j hj
  have hne : (zs.drop p).take k ≠ [] := by intro e; rw [e] at hj; simp at hj
  rw [hl] at hj
  refine ⟨d, o, _, rfl, hf _ _ _ hs.1 (by decide), ?_⟩
  rw [hpo hne]
  have hpj : p + j < zs.length := by omega
  simp only [List.getElem?_toArray]
  rw [bv_get zs (p + j) hpj]
  simp [List.getD, hj]
theorem CutS.bytS (hs : CutS w g d zs p ok) (n : Int) :
    Calls Try.prog 24 #[.pointer (some ⟨g, 0, none⟩), .int .i64 n] w (BAns g d p w (bytRes zs p ok n).1 (CutS · g d zs (bytRes zs p ok n).2.1 (bytRes zs p ok n).2.2)) := by
  cases ok with
  | false =>
    have e : bytRes zs p false n = ([], p, false) := by simp [bytRes]
    rw [e]
    exact ((hs.2.2.2.2 rfl).bytes_ n).mono fun _ w' ⟨he, hw⟩ => ⟨none, he, .inl rfl, fun h => absurd rfl h, by simp [BRd], by subst hw; exact World.grownBy.refl _ _, by subst hw; exact hs⟩
  | true =>
    obtain ⟨o, c, hc, ho⟩ := hs.cut
    by_cases hn : 0 ≤ n ∧ n ≤ (zs.length - p : Nat)
    · obtain ⟨k, rfl⟩ := Int.eq_ofNat_of_zero_le hn.1
      have e : bytRes zs p true (k : Int) = ((zs.drop p).take k, p + k, true) := by unfold bytRes; rw [if_pos ⟨rfl, hn⟩, Int.toNat_natCast]
      rw [e]
      exact (hc.bytes_ k (by simp; omega)).mono fun _ w' ⟨he, hg, hc'⟩ => hs.in_ hc ho (by omega) he hg hc'
    · have e : bytRes zs p true n = ([], p, false) := by unfold bytRes; rw [if_neg (fun h => hn h.2)]
      rw [e]
      exact (hc.bytes_over n (by simp; omega)).mono fun _ w' ⟨he, hg, hc'⟩ => ⟨none, he, .inl rfl, fun h => absurd rfl h, by simp [BRd], hg, hs.gone (Fr.of_gb hg hc.row) hc'⟩
theorem CutS.restS (hs : CutS w g d zs p ok) :
    Calls Try.prog 17 #[.pointer (some ⟨g, 0, none⟩)] w (BAns g d p w (bytRes zs p ok (zs.length - p : Nat)).1 (CutS · g d zs (bytRes zs p ok (zs.length - p : Nat)).2.1 (bytRes zs p ok (zs.length - p : Nat)).2.2)) := by
  cases ok with
  | false =>
    have e : bytRes zs p false (zs.length - p : Nat) = ([], p, false) := by simp [bytRes]
    rw [e]
    exact ((hs.2.2.2.2 rfl).rest_).mono fun _ w' ⟨he, hw⟩ => ⟨none, he, .inl rfl, fun h => absurd rfl h, by simp [BRd], by subst hw; exact World.grownBy.refl _ _, by subst hw; exact hs⟩
  | true =>
    obtain ⟨o, c, hc, ho⟩ := hs.cut
    have e : bytRes zs p true (zs.length - p : Nat) = ((zs.drop p).take (zs.length - p), p + (zs.length - p), true) := by unfold bytRes; rw [if_pos ⟨rfl, by omega, by omega⟩, Int.toNat_natCast]
    rw [e]
    have hr := hc.rest_
    rw [List.length_drop] at hr
    exact hr.mono fun _ w' ⟨he, hg, hc'⟩ => hs.in_ hc ho (Nat.le_refl _) he hg (by rw [List.drop_drop]; rw [show p + (zs.length - p) = zs.length by have := hs.2.2.1; omega, List.drop_length]; exact hc')
theorem CutS.leftS (hs : CutS w g d zs p ok) :
    Calls Try.prog 14 #[.pointer (some ⟨g, 0, none⟩)] w fun e w' => e = .returned (.int .i64 ((if ok = true then zs.length - p else 0 : Nat) : Int)) ∧ w = w' := by
  cases ok with
  | false => exact (hs.2.2.2.2 rfl).left_
  | true =>
    obtain ⟨o, c, hc, ho⟩ := hs.cut
    have := hc.left_
    rw [List.length_drop] at this
    simpa using this
theorem CutS.badS (hs : CutS w g d zs p ok) :
    Calls Try.prog 15 #[.pointer (some ⟨g, 0, none⟩)] w fun e w' => e = .returned (.bool (!ok)) ∧ w = w' := by
  cases ok with
  | false => exact (hs.2.2.2.2 rfl).bad_
  | true =>
    obtain ⟨o, c, hc, ho⟩ := hs.cut
    exact hc.bad_
end

section
variable {w : World} {h p : Nat} {zs : List Int} {ok : Bool}
theorem RefS.next {A : Option Addr} {n c k : Nat} {w' : World} (hr : RRow w h A n c false) (hn : n = zs.length - p) (hc : n ≤ c) (hb : BRd w A (zs.drop p)) (hk : k ≤ n) (hg : w.grownBy w' (some h)) (hr' : RRow w' h (cutA A c k) (n - k) (c - k) false) :
    RefS w' h zs (p + k) true := by
  have hf := Fr.of_gb hg hr
  refine ⟨fun _ => ⟨_, _, _, hr', by omega, by omega, fun j hj => ?_⟩, fun e => by cases e⟩
  have hj' : j < zs.length - (p + k) := by simpa using hj
  obtain ⟨b, o, cs, e, hrb, hcb⟩ := hb (k + j) (by simp; omega)
  subst e
  refine ⟨b, o + k, cs, ?_, hf _ _ _ hrb (by decide), ?_⟩
  · unfold cutA
    rw [if_neg (by omega)]
    simp [Addr.add]
  · rw [show o + k + j = o + (k + j) by omega, hcb]
    simp [List.getD, Nat.add_assoc]
theorem RefS.bytS (hs : RefS w h zs p ok) (hz : zs.length ≤ 5000) (n : Int) :
    Calls Try.prog 27 #[.pointer (some ⟨h, 0, none⟩), .int .i64 n] w (RGives w h (bytRes zs p ok n).1 (RefS · h zs (bytRes zs p ok n).2.1 (bytRes zs p ok n).2.2)) := by
  cases ok with
  | false =>
    have e : bytRes zs p false n = ([], p, false) := by simp [bytRes]
    rw [e]
    exact (rbytes_bad' h n w (hs.2 rfl)).mono fun _ w' ⟨A, m, c, he, hm, ho, hg, hr⟩ => ⟨A, m, c, he, hm, ho, hg, (fun e => by cases e), fun _ => hr⟩
  | true =>
    obtain ⟨A, m, c, hr, hm, hc, hb⟩ := hs.1 rfl
    by_cases hn : 0 ≤ n ∧ n ≤ (zs.length - p : Nat)
    · obtain ⟨k, rfl⟩ := Int.eq_ofNat_of_zero_le hn.1
      have e : bytRes zs p true (k : Int) = ((zs.drop p).take k, p + k, true) := by unfold bytRes; rw [if_pos ⟨rfl, hn⟩, Int.toNat_natCast]
      rw [e]
      exact (rbytes_in h m c k A (zs.drop p) w hr (by simp; omega) hb.rd (by omega) hc (by omega)).mono fun _ w' ⟨A', m', c', he, hm', ho, hg, hr'⟩ => ⟨A', m', c', he, hm', ho, hg, RefS.next hr hm hc hb (by omega) hg hr'⟩
    · have e : bytRes zs p true n = ([], p, false) := by unfold bytRes; rw [if_neg (fun h => hn h.2)]
      rw [e]
      exact (rbytes_over' h m c A n w hr (by omega)).mono fun _ w' ⟨A', m', c', he, hm', ho, hg, hr'⟩ => ⟨A', m', c', he, hm', ho, hg, (fun e => by cases e), fun _ => hr'⟩
theorem RefS.restS (hs : RefS w h zs p ok) (hz : zs.length ≤ 5000) :
    Calls Try.prog 28 #[.pointer (some ⟨h, 0, none⟩)] w (RGives w h (bytRes zs p ok (zs.length - p : Nat)).1 (RefS · h zs (bytRes zs p ok (zs.length - p : Nat)).2.1 (bytRes zs p ok (zs.length - p : Nat)).2.2)) := by
  cases ok with
  | false =>
    have e : bytRes zs p false (zs.length - p : Nat) = bytRes zs p false ((0 : Nat) : Int) := by simp [bytRes]
    rw [e]
    exact rrest_any h 0 0 none true _ _ w (hs.2 rfl) (hs.bytS hz ((0 : Nat) : Int))
  | true =>
    obtain ⟨A, m, c, hr, hm, hc, hb⟩ := hs.1 rfl
    subst hm
    exact rrest_any h _ c A false _ _ w hr (hs.bytS hz _)
theorem RefS.numS (hs : RefS w h zs p ok) (hz : zs.length ≤ 5000) (hy : Byt zs) (n : Int) :
    Calls Try.prog 26 #[.pointer (some ⟨h, 0, none⟩), .int .i64 n] w (RNum w h (numRes zs p ok n).1 (RefS · h zs (numRes zs p ok n).2.1 (numRes zs p ok n).2.2)) := by
  by_cases hw : 1 ≤ n ∧ n ≤ 8
  · have hb := hs.bytS hz n
    by_cases hn : ok = true ∧ n ≤ (zs.length - p : Nat)
    · have e1 : bytRes zs p ok n = ((zs.drop p).take n.toNat, p + n.toNat, true) := by unfold bytRes; rw [if_pos ⟨hn.1, by omega, hn.2⟩]
      have e2 : numRes zs p ok n = (num ((zs.drop p).take n.toNat), p + n.toNat, true) := by unfold numRes; rw [if_pos ⟨hn.1, hw.1, hw.2, hn.2⟩]
      rw [e1] at hb
      rw [e2]
      exact rnum_of h n _ _ w hw.1 hw.2 ((hy.drop p).take _) (by simp; omega) hb
    · have e1 : bytRes zs p ok n = ([], p, false) := by unfold bytRes; rw [if_neg (fun h => hn ⟨h.1, h.2.2⟩)]
      have e2 : numRes zs p ok n = (num [], p, false) := by unfold numRes; rw [if_neg (fun h => hn ⟨h.1, h.2.2.2⟩)]; rfl
      rw [e1] at hb
      rw [e2]
      exact rnum_of h n [] _ w hw.1 hw.2 (by simp [Byt]) (by simp) hb
  · have hb := hs.bytS hz (-1)
    have e1 : bytRes zs p ok (-1) = ([], p, false) := by unfold bytRes; rw [if_neg (fun h => by omega)]
    have e2 : numRes zs p ok n = (0, p, false) := by unfold numRes; rw [if_neg (fun h => hw ⟨h.2.1, h.2.2.1⟩)]
    rw [e1] at hb
    rw [e2]
    exact rnum_wrong h n _ w (by omega) hb
end

end Go.Proofs.Ytddmjenhpbbocaa
