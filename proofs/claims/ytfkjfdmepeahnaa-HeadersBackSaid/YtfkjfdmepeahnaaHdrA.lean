/-
  A chain, by the document's answer: whatever chain it is.
  Conditions: at most 16000000 bytes.
-/
import Derived.Test.YtfkjfdmepeahnaaHdrX
import Derived.Test.YtfkjfdmepeahnaaHdrY
import Derived.Test.YtfkjfdmepeahnaaHdrZ
namespace Go.Proofs.Ytfkjfdmepeahnaa.Hd
set_option maxRecDepth 100000
open Go.RowKit

theorem WalkOk.mono {j k : Nat} (h : WalkOk k) (hj : j ≤ k) : WalkOk j := fun next zs A n c p told first mc al w hl => h next zs A n c p told first mc al w (Nat.lt_of_lt_of_le hl hj)
theorem walk_ok : ∀ k, WalkOk k
  | 0 => fun _ _ _ _ _ _ _ _ _ _ _ h => absurd h (by omega)
  | k + 1 => fun next zs A n c p told first mc al w hl hn hs hz hn2 hp ht => by
    have IH : WalkOk zs.length := (walk_ok k).mono (by omega)
    by_cases h0 : next = 0
    · subst h0
      cases first with
      | true => exact walk_0 zs A n c p told mc al w hs hz hn2 hp IH
      | false => exact walk_first zs A n c p told mc al w ht
    · by_cases h60 : next = 60
      · subst h60
        exact walk_60 zs A n c p told first mc al w hs hz hn2 hp IH
      · by_cases h43 : next = 43
        · subst h43
          exact walk_43 zs A n c p told first mc al w hs hz hn2 hp IH
        · by_cases h44 : next = 44
          · subst h44
            exact walk_44 zs A n c p told first mc al w hs hz hn2 hp IH
          · by_cases h59 : next = 59
            · subst h59
              exact walk_59 zs A n c p told first mc al w
            · exact walk_other next zs A n c p told first mc al w h0 h60 h43 h44 h59 hs hn2
theorem walk_any (next : Int) (zs : List Int) (A : Option Addr) (n c : Nat) (p told : Int) (first mc al : Bool) (w : World) (hn : 0 ≤ next ∧ next ≤ 255) (hs : Slc w (.slice A n c) zs) (hz : Byt zs) (hn2 : n ≤ 16000000) (hp : 0 ≤ p ∧ p + n < 18446744073709551616) (ht : 0 ≤ told ∧ told < 18446744073709551616) :
    Calls Try.prog 39 #[.int .u8 next, .slice A n c, .int .u64 p, .int .u64 told, .bool first, .bool mc, .bool al] w (Tells w (walk next zs p told first mc al)) :=
  walk_ok (zs.length + 1) next zs A n c p told first mc al w (by omega) hn hs hz hn2 hp ht

set_option maxHeartbeats 2000000 in
theorem chain_any (next : Int) (zs : List Int) (A : Option Addr) (n c : Nat) (p : Int) (mc : Bool) (w : World) (hn : 0 ≤ next ∧ next ≤ 255) (hs : Slc w (.slice A n c) zs) (hz : Byt zs) (hn2 : n ≤ 16000000) (hp : 0 ≤ p ∧ p ≤ 4294967295) :
    Calls Try.prog 23 #[.int .u8 next, .slice A n c, .int .u32 p, .bool mc] w (Tells w (chain next zs p mc)) := by
  obtain ⟨Z, hZ⟩ : ∃ Z, Z = zt := ⟨_, rfl⟩
  have hzl : Hid (Z.toList.length = 10) := by rw [hZ]; exact rfl
  have VY := veil ((Lay.begin w).newA Z 54 (g := w.heap.size) rfl)
  have K : Hid (∀ told first u, 0 ≤ told ∧ told < 18446744073709551616 → Below w.heap.size w u → Calls Try.prog 39 #[.int .u8 next, .slice A n c, .int .u64 p, .int .u64 told, .bool first, .bool mc, .bool false] u (Tells u (walk next zs p told first mc false))) := fun told first u ht hb =>
    walk_any next zs A n c p told first mc false u hn (hs.keep hb) hz hn2 (by omega) ht
  have hwp : IntKind.u64.wrap p = p := by rw [IntKind.wrap_u64]; omega
  have hch : chain next zs p mc = walk next zs p (teller p) (decide (p = 40)) mc false := rfl
  rw [hch]
  clear hch hs hz hn
  generalize Z.toList = ZL at *
  unfold zt at hZ
  subst hZ
  rcases (by omega : p = 40 ∨ (¬ p = 40 ∧ 8 ≤ p) ∨ (¬ p = 40 ∧ p < 8)) with h | ⟨h, h8⟩ | ⟨h, h8⟩
  · subst h
    have ht : teller 40 = 6 := rfl
    rw [ht, show decide ((40 : Int) = 40) = true from rfl]
    have K1 := veil (fun u hb => K.out 6 true u (by omega) hb)
    clear K
    go_enter Try.func23, Try.ntmps23
    go_wp2_with fail
    refine (K1.out _ VY.out.below).mono ?_
    generalize walk next zs 40 6 true mc false = tR at *
    rintro e w2 ⟨A2, n2, c2, rfl, hs2, hf2, q⟩
    have hoff : Off A2 w.heap.size := fun b hb e => by have := hf2 b hb; have := VY.out.lt mem0; omega
    have hf3 : Hid (∀ b, A2 = some b → w.heap.size ≤ b.block) := fun b hb => Nat.le_trans VY.out.size (hf2 b hb)
    have Y1 := VY.out.keep q
    have T := veil (told_store (t := tR) (v := .slice A2 n2 c2) Y1 mem0 hzl.out rfl)
    have S3 := veil (hs2.setRow hoff (tc tR (.slice A2 n2 c2)).toArray)
    have Y2 := veil (Y1.put 0 rfl (tc tR (.slice A2 n2 c2)))
    simp only [List.set_cons_zero] at Y2
    clear q Y1 K1 hs2 hf2 hoff
    go_wp2_with (refine wpList_store_of rfl _ _ rfl rfl rfl T.out ?_)
    refine bodyPost_ret (told_ret Y2.out mem0 rfl rfl) rfl ?_
    exact ⟨A2, n2, c2, rfl, S3.out, hf3.out, Y2.out.below⟩
  · have ht : teller p = p - 8 := by unfold teller; rw [if_neg h, if_pos h8]
    rw [ht, show decide (p = 40) = false by simpa using h]
    have K1 := veil (fun u hb => K.out (p - 8) false u (by omega) hb)
    have fp : (p == 40) = false := by simpa using h
    have hws : IntKind.u64.wrap (p - 8) = p - 8 := by rw [IntKind.wrap_u64]; omega
    clear K ht
    go_enter Try.func23, Try.ntmps23
    go_wp2_with fail
    refine (K1.out _ VY.out.below).mono ?_
    generalize walk next zs p (p - 8) false mc false = tR at *
    rintro e w2 ⟨A2, n2, c2, rfl, hs2, hf2, q⟩
    have hoff : Off A2 w.heap.size := fun b hb e => by have := hf2 b hb; have := VY.out.lt mem0; omega
    have hf3 : Hid (∀ b, A2 = some b → w.heap.size ≤ b.block) := fun b hb => Nat.le_trans VY.out.size (hf2 b hb)
    have Y1 := VY.out.keep q
    have T := veil (told_store (t := tR) (v := .slice A2 n2 c2) Y1 mem0 hzl.out rfl)
    have S3 := veil (hs2.setRow hoff (tc tR (.slice A2 n2 c2)).toArray)
    have Y2 := veil (Y1.put 0 rfl (tc tR (.slice A2 n2 c2)))
    simp only [List.set_cons_zero] at Y2
    clear q Y1 K1 hs2 hf2 hoff
    go_wp2_with (refine wpList_store_of rfl _ _ rfl rfl rfl T.out ?_)
    refine bodyPost_ret (told_ret Y2.out mem0 rfl rfl) rfl ?_
    exact ⟨A2, n2, c2, rfl, S3.out, hf3.out, Y2.out.below⟩
  · have ht : teller p = 0 := by unfold teller; rw [if_neg h, if_neg (by omega)]
    rw [ht, show decide (p = 40) = false by simpa using h]
    have K1 := veil (fun u hb => K.out 0 false u (by omega) hb)
    have fp : (p == 40) = false := by simpa using h
    clear K ht
    go_enter Try.func23, Try.ntmps23
    go_wp2_with fail
    refine (K1.out _ VY.out.below).mono ?_
    generalize walk next zs p 0 false mc false = tR at *
    rintro e w2 ⟨A2, n2, c2, rfl, hs2, hf2, q⟩
    have hoff : Off A2 w.heap.size := fun b hb e => by have := hf2 b hb; have := VY.out.lt mem0; omega
    have hf3 : Hid (∀ b, A2 = some b → w.heap.size ≤ b.block) := fun b hb => Nat.le_trans VY.out.size (hf2 b hb)
    have Y1 := VY.out.keep q
    have T := veil (told_store (t := tR) (v := .slice A2 n2 c2) Y1 mem0 hzl.out rfl)
    have S3 := veil (hs2.setRow hoff (tc tR (.slice A2 n2 c2)).toArray)
    have Y2 := veil (Y1.put 0 rfl (tc tR (.slice A2 n2 c2)))
    simp only [List.set_cons_zero] at Y2
    clear q Y1 K1 hs2 hf2 hoff
    go_wp2_with (refine wpList_store_of rfl _ _ rfl rfl rfl T.out ?_)
    refine bodyPost_ret (told_ret Y2.out mem0 rfl rfl) rfl ?_
    exact ⟨A2, n2, c2, rfl, S3.out, hf3.out, Y2.out.below⟩

end Go.Proofs.Ytfkjfdmepeahnaa.Hd
