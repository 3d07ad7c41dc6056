/-
  Options out of bytes, by the code: whatever bytes there are.
  Conditions: at most 16000000 bytes.
-/
import Derived.Test.YtdebifkefpclaaaDoorOpoC
namespace Go.Proofs.YtdebifkefpclaaaDoor.Oz
set_option maxRecDepth 100000
open Go.RowKit Ops

def els (b : Nat) (acc : List Sp) : List El := acc.map fun x => ⟨x.k, some ⟨b, x.o, none⟩, x.n, x.n⟩
theorem els_len (b : Nat) (acc : List Sp) : (els b acc).length = acc.length := by simp [els]
theorem els_next (b : Nat) (acc : List Sp) (x : Sp) : els b (acc ++ [x]) = els b acc ++ [⟨x.k, some ⟨b, x.o, none⟩, x.n, x.n⟩] := by simp [els]
def leftC (w : World) (g : Nat) : Nat := match w.cell? ⟨g, 0, none⟩ with
  | some (.slice _ n _) => n
  | _ => 0
theorem clipO (A : Option Addr) (n c : Nat) (w : World) (h : n ≤ c) : Calls Tryd.prog 68 #[.slice A n c] w fun e w' => e = .returned (.slice A n n) ∧ w = w' := by
  have h1 : ¬ c < n := by omega
  go_enter Tryd.func68, Tryd.ntmps68
  go_wp2
  go_ret
  exact ⟨rfl, rfl⟩
/-- what a call of Get answers -/
def GotO (w : World) (zs : List Int) (R : Option (List Sp)) (e : Ending) (w' : World) : Prop := match R with
  | none => e = .returned (.tuple #[.slice none 0 0, .int .i64 4]) ∧ Below w.heap.size w w'
  | some ds => ∃ A b base cap L, e = .returned (.tuple #[.slice A ds.length ds.length, .int .i64 0]) ∧ (b, 5, bv zs) ∈ L ∧ Many w w' L base (.slice A ds.length cap) (els b ds)
theorem num_one {zs : List Int} {o : Nat} (h : o < zs.length) : num ((zs.drop o).take 1) = zs.getD o 0 := by
  have := num_next (zs.drop o) 0 (by simp; omega)
  simpa [num, List.getD] using this

set_option linter.unusedSimpArgs false in
set_option maxHeartbeats 8000000 in
theorem codeGet (A : Option Addr) (n c : Nat) (zs : List Int) (w : World) (hs : Slc w (.slice A n c) zs) (hz : Byt zs) (hl : zs.length = n) (hn : n ≤ 16000000) :
    Calls Tryd.prog 23 #[.slice A n c] w (GotO w zs (goes zs 0 [])) := by
  have K := veil ((Lay.begin w).cut A n c hl (by omega) (slc_rd hs).1)
  obtain ⟨R, hR⟩ : ∃ R, goes zs 0 [] = R := ⟨_, rfl⟩
  rw [hR]
  have HZ := veil hz
  have HL := veil hl
  have HR := veil hR
  clear hs hz hl hR
  go_enter Tryd.func23, Tryd.ntmps23
  go_wp2_with fail
  refine (K.out).mono ?_
  rintro e w1 ⟨b, hb, rfl, Y, hsz⟩
  have VM := veil (Many.begin Y)
  clear Y K
  obtain ⟨base, hbase⟩ : ∃ x, w1.heap.size = x := ⟨_, rfl⟩
  rw [hbase] at VM
  clear hbase hsz hb
  go_wp2_with fail
  go_loopw [4] (fun s4 wr => ∃ (p o r : Nat) (acc : List Sp), p + r = n ∧ Hid (0 < r → o = p) ∧ Hid (Many w wr [(b + 1, 130, ct b o r), (b, 5, bv zs)] base s4 (els b acc)) ∧ Hid (goes zs p acc = R) ∧ Hid (Lie zs p acc)) (fun _ wr => leftC wr (b + 1))
  case atStart => exact ⟨0, 0, n, [], by omega, veil (fun _ => rfl), VM, HR, veil (lie_nil zs)⟩
  case round =>
    rename_i s4 wr
    obtain ⟨p, o, r, acc, hp, ho, VN, HG, HL2⟩ := hrel
    clear VM HR
    have VM := veil VN.out
    clear VN
    obtain ⟨A4, c4, e4, hc4⟩ := VM.out.slice
    rw [els_len] at e4 hc4
    subst e4
    have KL := veil (VM.out.left mem0)
    have hfar : leftC wr (b + 1) = r := by
      unfold leftC
      rw [VM.out.lay.look mem0 (v := .slice (some ⟨b, o, none⟩) r r) rfl]
    have HF := veil hfar
    clear hfar
    by_cases h0 : r = 0
    · subst h0
      have KC := veil (clipO A4 acc.length c4 wr hc4)
      have HG' : Hid (R = some acc) := veil (by rw [← HG.out, goes_end (by have := HL.out; omega)])
      go_wp2_with fail
      refine (KL.out).mono ?_
      rintro e w2 ⟨rfl, rfl⟩
      clear KL
      go_wp2_with fail
      refine (KC.out).mono ?_
      rintro e w2 ⟨rfl, rfl⟩
      clear KC
      go_wp2_with fail
      go_ret2
      rw [HG'.out]
      exact ⟨A4, b, base, c4, _, rfl, mem1, VM.out⟩
    have h0' : 0 < r := by omega
    obtain rfl : o = p := ho.out h0'
    clear ho
    have hol : o < zs.length := by have := HL.out; omega
    have hbx := HZ.out.at_ o
    have N1 := VM.out.num (zs := zs) (t := 5) (i := 0) rfl mem1 (by omega) HZ.out (by have := HL.out; omega) 1 (by omega) (by omega) (by omega) _ rfl
    rw [num_one hol] at N1
    have hw1 : IntKind.u8.wrap (zs.getD o 0) = zs.getD o 0 := by rw [IntKind.wrap_u8]; omega
    obtain ⟨x0, hx0⟩ : ∃ x, zs.getD o 0 = x := ⟨_, rfl⟩
    rw [hx0] at N1 hw1 hbx
    have HX0 := veil hx0
    obtain ⟨o1, ho1⟩ : ∃ q, (if r = 1 then o else o + 1) = q := ⟨_, rfl⟩
    rw [ho1] at N1
    replace N1 := veil N1
    have i0 : (0 : Int) < (r : Int) := by omega
    clear hx0 VM
    go_wp2_with fail
    refine (KL.out).mono ?_
    rintro e w2 ⟨rfl, rfl⟩
    clear KL
    go_wp2_with fail
    refine (N1.out).mono ?_
    rintro e w2 ⟨rfl, M2, hsz⟩
    clear hsz
    have VM := veil M2
    clear M2 N1
    by_cases h1 : r = 1
    · subst h1
      have HG' : Hid (R = none) := veil (by rw [← HG.out, goes_wrong hol (by unfold Wrong; exact .inl (by have := HL.out; omega))])
      have N2 := veil (VM.out.numOver (i := 0) rfl 1 (by omega))
      clear VM
      go_wp2_with fail
      refine (N2.out).mono ?_
      rintro e w3 ⟨rfl, M3, hsz⟩
      clear hsz
      have VM := veil M3
      have KB := veil (VM.out.badBytes mem0 (-2))
      have KX := veil (VM.out.bad mem0)
      clear M3 N2
      go_wp2_with fail
      refine (KB.out).mono ?_
      rintro e w4 ⟨rfl, rfl⟩
      clear KB
      go_wp2_with fail
      refine (KX.out).mono ?_
      rintro e w4 ⟨rfl, rfl⟩
      clear KX
      go_wp2_with fail
      go_ret2
      rw [HG'.out]
      exact ⟨rfl, VM.out.lay.below⟩
    obtain rfl : o + 1 = o1 := by rw [← ho1, if_neg h1]
    have hol1 : o + 1 < zs.length := by have := HL.out; omega
    have hbk := HZ.out.at_ (o + 1)
    have N2 := VM.out.num (zs := zs) (t := 5) (i := 0) rfl mem1 (by omega) HZ.out (by have := HL.out; omega) 1 (by omega) (by omega) (by omega) _ rfl
    rw [num_one hol1] at N2
    obtain ⟨kk, hkk⟩ : ∃ x : Nat, zs.getD (o + 1) 0 = (x : Int) := ⟨eightsAt zs o, by unfold eightsAt; omega⟩
    have hke : Hid (eightsAt zs o = kk) := veil (by unfold eightsAt; rw [hkk]; omega)
    rw [hkk] at N2 hbk
    obtain ⟨o2, ho2⟩ : ∃ q, (if r - 1 = 1 then o + 1 else o + 1 + 1) = q := ⟨_, rfl⟩
    rw [ho2] at N2
    replace N2 := veil N2
    have HO2 := veil ho2
    have hw2 : IntKind.i64.wrap (kk : Int) = (kk : Int) := by rw [IntKind.wrap_i64]; omega
    clear VM ho1 hkk ho2
    go_wp2_with fail
    refine (N2.out).mono ?_
    rintro e w3 ⟨rfl, M3, hsz⟩
    clear hsz
    have VM := veil M3
    clear M3 N2
    by_cases h2 : kk = 0 ∨ r < 8 * kk
    · have HG' : Hid (R = none) := veil (by rw [← HG.out, goes_wrong hol (by unfold Wrong; rw [hke.out]; have := HL.out; omega)])
      have KB := veil (VM.out.bytesOver (i := 0) rfl ((kk : Int) * 8 - 2) (by omega))
      clear VM
      go_wp2_with fail
      refine (KB.out).mono ?_
      rintro e w4 ⟨rfl, M4, hsz⟩
      clear hsz
      have VM := veil M4
      have KX := veil (VM.out.bad mem0)
      clear M4 KB
      go_wp2_with fail
      refine (KX.out).mono ?_
      rintro e w5 ⟨rfl, rfl⟩
      clear KX
      go_wp2_with fail
      go_ret2
      rw [HG'.out]
      exact ⟨rfl, VM.out.lay.below⟩
    have hk0 : 1 ≤ kk := by omega
    have hkr : 8 * kk ≤ r := by omega
    obtain rfl : o + 1 + 1 = o2 := by rw [← HO2.out, if_neg (by omega)]
    obtain ⟨nn, hnn⟩ : ∃ x, 8 * kk - 2 = x := ⟨_, rfl⟩
    have hn8 : (kk : Int) * 8 - 2 = (nn : Int) := by omega
    have KB := VM.out.bytes (i := 0) rfl nn (by omega) _ rfl
    obtain ⟨o3, ho3⟩ : ∃ q, (if r - 1 - 1 = nn then o + 1 + 1 else o + 1 + 1 + nn) = q := ⟨_, rfl⟩
    rw [ho3] at KB
    have HO3 := veil ho3
    have E8 : ∀ m : Nat, (m : Int) * 8 - 2 = (kk : Int) * 8 - 2 → (m : Int) * 8 - 2 = (nn : Int) := fun m h => by omega
    have HNN := veil hnn
    rw [← hn8] at KB
    replace KB := veil KB
    clear VM E8 ho3 h2 hnn hn8
    go_wp2_with fail
    refine (KB.out).mono ?_
    rintro e w4 ⟨rfl, M4, hsz⟩
    clear hsz
    have VM := veil M4
    have KX := veil (VM.out.sound mem0)
    have h64b := HL2.out.2.2
    clear M4 KB
    by_cases h64 : acc.length = 64
    · have HG' : Hid (R = none) := veil (by rw [← HG.out, goes_wrong hol (by unfold Wrong; omega)])
      have i64 : ((acc.length : Int) == 64) = true := by simp; omega
      clear h64
      go_wp2_with fail
      refine (KX.out).mono ?_
      rintro e w5 ⟨rfl, rfl⟩
      clear KX
      go_wp2_with fail
      go_ret2
      rw [HG'.out]
      exact ⟨rfl, VM.out.lay.below⟩
    have hnw : Hid (¬ Wrong zs o acc.length) := veil (by unfold Wrong; rw [hke.out]; have := HL.out; omega)
    obtain ⟨v5, w5, happ, M5, _, _⟩ := VM.out.more ⟨x0, some ⟨b, o + 1 + 1, none⟩, nn, nn⟩ (by rw [els_len]; omega) 22
    have VM5 := veil M5
    have H5 : Hid ((Builtin.append_ #[22, 22] 22 #[.slice A4 acc.length c4, .slice (some ⟨w4.heap.size, 0, none⟩) 1 1]).run Tryd.prog (w4.alloc (.cells #[.int .u8 x0, .slice (some ⟨b, o + 1 + 1, none⟩) nn nn] 29)) = .ok v5 w5) := veil happ
    have i64 : ((acc.length : Int) == 64) = false := by simp; omega
    clear h64 M5 happ VM
    go_wp2_with fail
    refine (KX.out).mono ?_
    rintro e w6 ⟨rfl, rfl⟩
    clear KX
    go_wp2_with (at_builtin; refine wpList_append_run rfl (.tmp 30) (.tmp 34) rfl rfl rfl H5.out ?_)
    clear H5
    go_roundw
    case rel =>
      refine ⟨o + 8 * kk, o3, r - 1 - 1 - nn, acc ++ [⟨x0, o + 2, nn⟩], by have := HNN.out; omega, veil (fun h => by have := HNN.out; rw [← HO3.out, if_neg (by omega)]; omega), veil ?_, veil ?_, veil ?_⟩
      · rw [els_next]
        exact VM5.out
      · have := goes_next hol hnw.out
        rw [hke.out, HX0.out, HNN.out] at this
        rw [← this]
        exact HG.out
      · have := lie_next HZ.out HL2.out hnw.out
        rw [hke.out, HX0.out, HNN.out] at this
        exact this
    case measure =>
      have e1 : leftC w5 (b + 1) = r - 1 - 1 - nn := by
        unfold leftC
        rw [VM5.out.lay.look mem0 (v := .slice (some ⟨b, o3, none⟩) (r - 1 - 1 - nn) (r - 1 - 1 - nn)) rfl]
      rw [e1, HF.out]
      omega

end Go.Proofs.YtdebifkefpclaaaDoor.Oz
