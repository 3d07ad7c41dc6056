/-
  One option judged, by the code.
  Conditions: its place stays below 2 to the 64th.
-/
import Derived.Test.YtfkjfdmepeahnaaHdcB
namespace Go.Proofs.Ytfkjfdmepeahnaa.Hd
set_option maxRecDepth 100000
open Go.RowKit Ops

def St.mark (s : St) (kd sz : Int) : St := if kd = 5 ∧ sz = 2 ∧ s.next = 0 then { s with al := true } else s
/-- what judging an option answers, and what it leaves -/
def jud (s : St) (kd sz p : Int) : Int × St :=
  if kd < 64 then (0, s.mark kd sz) else if kd < 128 then (8, s) else if 192 ≤ kd ∧ s.mc = true then (8, s) else (7, s.blame 2 p)

section
variable {P : Nat → Prop} {w0 w : World} {L : List Blk} {i g c : Nat} {s : St}

theorem judge_any (h : LayF P w0 w L) (hi : L[i]? = some (g, 84, wc c s)) (kd sz p : Int) (hk : 0 ≤ kd ∧ kd ≤ 255) (hp : 0 ≤ p ∧ p < 18446744073709551616) :
    Calls Try.prog 63 #[.pointer (some ⟨g, 0, none⟩), .int .u8 kd, .int .i64 sz, .int .u64 p] w fun e w' => e = .returned (.int .i64 (jud s kd sz p).1) ∧ LayF P w0 w' (L.set i (g, 84, wc c (jud s kd sz p).2)) ∧ w'.heap.size = w.heap.size := by
  have hm := List.mem_of_getElem? hi
  have c2 : w.cell? ⟨g, 2, none⟩ = some (.int .u8 s.next) := h.look hm rfl
  have c7 : w.cell? ⟨g, 7, none⟩ = some (.bool s.al) := h.look hm rfl
  have c1 : w.cell? ⟨g, 1, none⟩ = some (.bool s.mc) := h.look hm rfl
  have f7 := h.free hm 7
  have Y0 := veil (show LayF P w0 w (L.set i (g, 84, wc c s)) from h.cells [] hi)
  have Y1 := veil (h.cells [(7, .bool true)] hi)
  have K := veil (blame_any h hi 2 p hp)
  clear hm hi h
  unfold jud St.mark
  by_cases h5 : kd = 5
  · subst h5
    rw [if_pos (by omega : (5 : Int) < 64)]
    by_cases h2 : sz = 2
    · subst h2
      by_cases hn : s.next = 0
      · rw [if_pos ⟨rfl, rfl, hn⟩]
        rw [hn] at c2
        go_enter Try.func63, Try.ntmps63
        go_wp2_with fail
        go_ret
        exact ⟨rfl, Y1.out, by simp [World.setCell]⟩
      · rw [if_neg (fun q => hn q.2.2)]
        have dn : (s.next == 0) = false := by simpa using hn
        go_enter Try.func63, Try.ntmps63
        go_wp2_with fail
        go_ret
        exact ⟨rfl, Y0.out, rfl⟩
    · rw [if_neg (fun q => h2 q.2.1)]
      have d2 : (sz == 2) = false := by simpa using h2
      go_enter Try.func63, Try.ntmps63
      go_wp2_with fail
      go_ret
      exact ⟨rfl, Y0.out, rfl⟩
  · rw [if_neg (fun q => h5 q.1 : ¬ (kd = 5 ∧ sz = 2 ∧ s.next = 0))]
    have d5 : (kd == 5) = false := by simpa using h5
    rcases (by omega : kd < 64 ∨ (64 ≤ kd ∧ kd < 128) ∨ (128 ≤ kd ∧ kd < 192) ∨ 192 ≤ kd) with q | q | q | q
    · rw [if_pos q]
      go_enter Try.func63, Try.ntmps63
      go_wp2_with fail
      go_ret
      exact ⟨rfl, Y0.out, rfl⟩
    · rw [if_neg (by omega), if_pos (by omega)]
      have q1 : kd / 64 = 1 := by omega
      go_enter Try.func63, Try.ntmps63
      go_wp2_with fail
      go_ret
      exact ⟨rfl, Y0.out, rfl⟩
    · rw [if_neg (by omega), if_neg (by omega), if_neg (fun z => by omega)]
      have q1 : kd / 64 = 2 := by omega
      go_enter Try.func63, Try.ntmps63
      go_wp2_with fail
      refine (K.out).mono ?_
      rintro e w1 ⟨rfl, YB, s1⟩
      have VY := veil YB
      clear YB K
      go_wp2_with fail
      go_ret
      exact ⟨rfl, VY.out, s1⟩
    · rw [if_neg (by omega), if_neg (by omega)]
      have q1 : kd / 64 = 3 := by omega
      cases hmc : s.mc with
      | true =>
        rw [hmc] at c1
        rw [if_pos ⟨q, rfl⟩]
        go_enter Try.func63, Try.ntmps63
        go_wp2_with fail
        go_ret
        exact ⟨rfl, Y0.out, rfl⟩
      | false =>
        rw [hmc] at c1
        rw [if_neg (fun z => Bool.noConfusion z.2)]
        go_enter Try.func63, Try.ntmps63
        go_wp2_with fail
        refine (K.out).mono ?_
        rintro e w1 ⟨rfl, YB, s1⟩
        have VY := veil YB
        clear YB K
        go_wp2_with fail
        go_ret
        exact ⟨rfl, VY.out, s1⟩
end

end Go.Proofs.Ytfkjfdmepeahnaa.Hd
