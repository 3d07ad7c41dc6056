/-
  What draws' Feed answers: as many are taken as there is room for, and wait behind the others.
  Conditions: words lie in a block of their own, which is not that of the words fed.
-/
import Derived.Test.YtmjpmagfbiocnaaDrwB
import Derived.StillTailTactics
import Derived.IntWalk
namespace Go.Proofs.Ytmjpmagfbiocnaa.W32
open Go.RowKit

theorem feed_nil (A : Option Addr) (n c : Nat) (w : World) : Calls Try.prog 11 #[.pointer none, .slice A n c] w fun e w' => e = .returned (.int .i64 0) ∧ w = w' := by
  go_enter Try.func11, Try.ntmps11
  go_wp2_with fail
  refine (missing_nil w).mono ?_
  rintro e w1 ⟨rfl, rfl⟩
  go_wp2_with fail
  go_ret
  exact ⟨rfl, rfl⟩

theorem feed_raw {w : World} {g : Nat} (h : Raw w g) (A : Option Addr) (n c : Nat) : Calls Try.prog 11 #[.pointer (some ⟨g, 0, none⟩), .slice A n c] w fun e w' => e = .returned (.int .i64 0) ∧ w = w' := by
  have H := veil h
  clear h
  go_enter Try.func11, Try.ntmps11
  go_wp2_with fail
  refine (missing_cl H.out).mono ?_
  rintro e w1 ⟨rfl, rfl⟩
  go_wp2_with fail
  go_ret
  exact ⟨rfl, rfl⟩

theorem Wd.more {w w' : World} {g : Nat} {R : List Int} {f : Nat} {q : List Int} {x : Int} (h : Cl w g R f q.length true) (hf : f < 256) (hq : q.length < 256) (he : ∀ i, i < q.length → R.getD ((f + i) % 256) 0 = q.getD i 0)
    (h' : Cl w' g (R.set ((f + q.length) % 256) x) f (q.length + 1) true) : Wd w' g (q ++ [x]) := by
  refine ⟨_, f, by simpa using h', hf, by simp; omega, ?_⟩
  intro i hi
  simp only [List.length_append, List.length_cons, List.length_nil] at hi
  by_cases e : i = q.length
  · subst e
    have hl : (f + q.length) % 256 < R.length := by rw [h.2.1]; omega
    simp [List.getD, hl]
  · have hne : (f + q.length) % 256 ≠ (f + i) % 256 := by omega
    have e1 := he i (by omega)
    have hiq : i < q.length := by omega
    simp only [List.getD] at e1 ⊢
    rw [List.getElem?_set_ne hne, e1, List.getElem?_append_left hiq]

set_option maxRecDepth 4000 in
set_option maxHeartbeats 1000000 in
theorem feed_at {w : World} {g : Nat} {q zs : List Int} (A : Option Addr) (n c k : Nat) (h : Wd w g q) (hr : Rd w A zs) (ho : zs ≠ [] → Off A g) (hb : Byt zs) (hl : zs.length = n) (hn : n ≤ c) (hk : k = min n (256 - q.length)) :
    Calls Try.prog 11 #[.pointer (some ⟨g, 0, none⟩), .slice A n c] w
      fun e w' => e = .returned (.int .i64 k) ∧ Wd w' g (q ++ zs.take k) ∧ w.grownBy w' (some g) := by
  have H := veil h
  have HR := veil hr
  have HO := veil ho
  have HB := veil hb
  have HZ := veil hl
  obtain ⟨R0, f0, h1, g1, h3, g2⟩ := h
  clear g1 g2
  have h2 := h1.cc
  have hm := veil h1
  generalize hL : q.length = L at *
  clear h1 hr ho hb hl
  go_enter Try.func11, Try.ntmps11
  go_wp2_with fail
  refine (missing_cl hm.out).mono ?_
  rintro e w1 ⟨rfl, rfl⟩
  clear hm
  go_wp2_with fail
  case inl =>
    have e2 : 256 - L = k := by omega
    have e1 : (256 - (L : Int)) = (k : Int) := by omega
    have e3 : max (k : Int) 0 = k := by omega
    have k1 : k ≤ n := by omega
    have k2 : L + k ≤ 256 := by omega
    simp only [e1, e2, e3]
    clear hk h3 h e1 e2 e3 h2
    have HL := veil hL
    clear hL
    go_loopw [22] (fun i wr => ∃ j : Nat, j ≤ k ∧ i = .int .i64 j ∧ Hid (Wd wr g (q ++ zs.take j)) ∧ Hid (w.grownBy wr (some g))) (fun i _ => k - (intOf i).toNat)
    case atStart => exact ⟨0, Nat.zero_le _, rfl, by simpa using H, veil (World.grownBy.refl _ _)⟩
    case round =>
      obtain ⟨j, hj, rfl, hW, hG⟩ := hrel
      by_cases hlt : j < k
      · obtain ⟨a, rfl, hca⟩ := (HR.out.gb hG.out (fun a e => (fun h => HO.out (fun e0 => by have := HZ.out; rw [e0] at this; simp at this; omega) a e (by injection h)))) j (by rw [HZ.out]; omega)
        have hz := HB.out.at_ j
        have hT : Hid (zs.take (j + 1) = zs.take j ++ [zs.getD j 0]) := take_next zs j (by rw [HZ.out]; omega)
        have hM : (q ++ zs.take j).length = L + j := by simp [HL.out, HZ.out]; omega
        generalize zs.getD j 0 = z at *
        obtain ⟨R, f, w1, hf, w3, w4⟩ := hW.out
        rw [hM] at w1 w3
        have M1 : L + j < 256 := by omega
        generalize L + j = M at *
        have c0 := w1.cf
        have c1 := w1.cc
        have HW1 := veil w1
        have HW4 := veil w4
        have hp : (f + M) % 256 < 256 := by omega
        have f0 := w1.fr ((f + M) % 256)
        have f1 := w1.fr 257
        have S2 : Hid ((IntKind.i64.wrap ((f : Int) + M)).tmod 256 = (((f + M) % 256 : Nat) : Int)) := by show _ = _; rw [IntWalk.i64_in _ (by omega), Int.tmod_eq_emod_of_nonneg (by omega)]; omega
        obtain ⟨p, hpd⟩ : ∃ p, (f + M) % 256 = p := ⟨_, rfl⟩
        rw [hpd] at hp f0 S2
        have HP := veil hpd
        clear hpd
        clear w1 w4 hW
        go_wp2_with fail
        have p1 : ¬ ((p : Int) < 0) := by omega
        have p2 : (p : Int) < 256 := by omega
        have p3 : (p : Int).toNat = p := by omega
        have D1 : Hid (Cl wr.drew g R f M true) := HW1
        have D2 : Hid (w.grownBy wr.drew (some g)) := gb_trans hG.out (gb_still ⟨1, rfl⟩ _)
        have s2 := S2.out
        go_still_tail 15, (by kernel_rfl)
        change wpList _ _ _ _ _ wr.drew
        generalize wr.drew = w2 at *
        clear s2 S2 f0 f1 c0 c1 hca HW1 hG
        have f0 := D1.out.fr p
        have f1 := D1.out.fr 257
        have c1 := D1.out.cc
        have c2 := D1.out.at_ p hp
        have hne : p ≠ 257 := by omega
        go_wp2_with fail
        go_roundw
        case rel => exact ⟨j + 1, by omega, by go_num, by
          show Wd _ _ _
          rw [hT.out, ← List.append_assoc]
          exact Wd.more (by rw [hM]; exact D1.out) hf (by rw [hM]; exact M1) HW4.out (by rw [hM, HP.out]; exact (D1.out.set p z hp hz).count (M + 1)), veil (gb_trans D2.out (gb_trans (gb_set _ g p _) (gb_set _ g 257 _)))⟩
        case measure => simp [intOf]; omega
      · have e : j = k := by omega
        subst e
        go_wp2_with fail
        go_ret
        exact ⟨rfl, hW.out, hG.out⟩
  case inr =>
    have e1 : k = n := by omega
    have k1 : k ≤ n := by omega
    have k2 : L + k ≤ 256 := by omega
    subst e1
    clear hk h3 h h2
    have HL := veil hL
    clear hL
    go_loopw [22] (fun i wr => ∃ j : Nat, j ≤ k ∧ i = .int .i64 j ∧ Hid (Wd wr g (q ++ zs.take j)) ∧ Hid (w.grownBy wr (some g))) (fun i _ => k - (intOf i).toNat)
    case atStart => exact ⟨0, Nat.zero_le _, rfl, by simpa using H, veil (World.grownBy.refl _ _)⟩
    case round =>
      obtain ⟨j, hj, rfl, hW, hG⟩ := hrel
      by_cases hlt : j < k
      · obtain ⟨a, rfl, hca⟩ := (HR.out.gb hG.out (fun a e => (fun h => HO.out (fun e0 => by have := HZ.out; rw [e0] at this; simp at this; omega) a e (by injection h)))) j (by rw [HZ.out]; omega)
        have hz := HB.out.at_ j
        have hT : Hid (zs.take (j + 1) = zs.take j ++ [zs.getD j 0]) := take_next zs j (by rw [HZ.out]; omega)
        have hM : (q ++ zs.take j).length = L + j := by simp [HL.out, HZ.out]; omega
        generalize zs.getD j 0 = z at *
        obtain ⟨R, f, w1, hf, w3, w4⟩ := hW.out
        rw [hM] at w1 w3
        have M1 : L + j < 256 := by omega
        generalize L + j = M at *
        have c0 := w1.cf
        have c1 := w1.cc
        have HW1 := veil w1
        have HW4 := veil w4
        have hp : (f + M) % 256 < 256 := by omega
        have f0 := w1.fr ((f + M) % 256)
        have f1 := w1.fr 257
        have S2 : Hid ((IntKind.i64.wrap ((f : Int) + M)).tmod 256 = (((f + M) % 256 : Nat) : Int)) := by show _ = _; rw [IntWalk.i64_in _ (by omega), Int.tmod_eq_emod_of_nonneg (by omega)]; omega
        obtain ⟨p, hpd⟩ : ∃ p, (f + M) % 256 = p := ⟨_, rfl⟩
        rw [hpd] at hp f0 S2
        have HP := veil hpd
        clear hpd
        clear w1 w4 hW
        go_wp2_with fail
        have p1 : ¬ ((p : Int) < 0) := by omega
        have p2 : (p : Int) < 256 := by omega
        have p3 : (p : Int).toNat = p := by omega
        have D1 : Hid (Cl wr.drew g R f M true) := HW1
        have D2 : Hid (w.grownBy wr.drew (some g)) := gb_trans hG.out (gb_still ⟨1, rfl⟩ _)
        have s2 := S2.out
        go_still_tail 15, (by kernel_rfl)
        change wpList _ _ _ _ _ wr.drew
        generalize wr.drew = w2 at *
        clear s2 S2 f0 f1 c0 c1 hca HW1 hG
        have f0 := D1.out.fr p
        have f1 := D1.out.fr 257
        have c1 := D1.out.cc
        have c2 := D1.out.at_ p hp
        have hne : p ≠ 257 := by omega
        go_wp2_with fail
        go_roundw
        case rel => exact ⟨j + 1, by omega, by go_num, by
          show Wd _ _ _
          rw [hT.out, ← List.append_assoc]
          exact Wd.more (by rw [hM]; exact D1.out) hf (by rw [hM]; exact M1) HW4.out (by rw [hM, HP.out]; exact (D1.out.set p z hp hz).count (M + 1)), veil (gb_trans D2.out (gb_trans (gb_set _ g p _) (gb_set _ g 257 _)))⟩
        case measure => simp [intOf]; omega
      · have e : j = k := by omega
        subst e
        go_wp2_with fail
        go_ret
        exact ⟨rfl, hW.out, hG.out⟩

theorem feed_any {w : World} {g : Nat} {q zs : List Int} (A : Option Addr) (n c : Nat) (h : Wd w g q) (hr : Rd w A zs) (ho : zs ≠ [] → Off A g) (hb : Byt zs) (hl : zs.length = n) (hn : n ≤ c) :
    Calls Try.prog 11 #[.pointer (some ⟨g, 0, none⟩), .slice A n c] w
      fun e w' => e = .returned (.int .i64 (min n (256 - q.length) : Nat)) ∧ Wd w' g (q ++ zs.take (256 - q.length)) ∧ w.grownBy w' (some g) := by
  refine (feed_at A n c _ h hr ho hb hl hn rfl).mono ?_
  rintro e w' ⟨rfl, h1, h2⟩
  refine ⟨rfl, ?_, h2⟩
  rw [show zs.take (256 - q.length) = zs.take (min n (256 - q.length)) by
    by_cases h : n ≤ 256 - q.length
    · rw [Nat.min_eq_left h, List.take_of_length_le (by omega), List.take_of_length_le (by omega)]
    · rw [Nat.min_eq_right (by omega)]]
  exact h1

end Go.Proofs.Ytmjpmagfbiocnaa.W32
