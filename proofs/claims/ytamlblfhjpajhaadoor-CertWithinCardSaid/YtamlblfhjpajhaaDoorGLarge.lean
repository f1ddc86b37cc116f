/-
  The law's own large.
-/
import Derived.Test.YtamlblfhjpajhaaDoorGLaw
namespace Go.Proofs.YtamlblfhjpajhaaDoor
set_option linter.unusedSimpArgs false
set_option linter.unusedVariables false
open Go Go.RowKit
set_option maxRecDepth 100000

def bulkN (xs : List (List UInt8)) : Nat := (xs.map fun x => 10 + min 9000 x.length).sum
theorem bulk_take {xs : List (List UInt8)} {k : Nat} (h : k < xs.length) : bulkN (xs.take (k + 1)) = bulkN (xs.take k) + 10 + min 9000 (xs.getD k []).length := by
  rw [take_text h]
  simp [bulkN]; omega
theorem bulk_mem {xs : List (List UInt8)} {x : List UInt8} (h : x ∈ xs) : 10 + min 9000 x.length ≤ bulkN xs := by
  induction xs with
  | nil => cases h
  | cons y xs ih =>
    have e : bulkN (y :: xs) = 10 + min 9000 y.length + bulkN xs := by simp [bulkN]
    rw [e]
    rcases List.mem_cons.1 h with rfl | h
    · omega
    · have := ih h; omega
theorem bulk_len (xs : List (List UInt8)) : 10 * xs.length ≤ bulkN xs := by
  induction xs with
  | nil => simp
  | cons y xs ih =>
    have e : bulkN (y :: xs) = 10 + min 9000 y.length + bulkN xs := by simp [bulkN]
    rw [e, List.length_cons]; omega
/-- Not large. -/
def smallCt (c : Ct) : Prop := min 9000 c.key.length + min 9000 c.sig.length + bulkN c.names < 9000
theorem smallCt.short {c : Ct} (h : smallCt c) : c.key.length < 9000 ∧ c.sig.length < 9000 ∧ c.names.length ≤ 900 ∧ (∀ n ∈ c.names, n.length < 9000) ∧ shortC c := by
  unfold smallCt at h
  have h1 := bulk_len c.names
  have h2 : ∀ n ∈ c.names, n.length < 9000 := fun n hn => by have := bulk_mem hn; omega
  exact ⟨by omega, by omega, by omega, h2, by omega, by omega, by omega, fun n hn => by have := h2 n hn; omega⟩
/-- What large tells. -/
def LargeP (w : World) (c : Ct) (e : Ending) (w' : World) : Prop := ∃ b, e = .returned (.bool b) ∧ Below w.heap.size w w' ∧ (b = false → smallCt c)
set_option maxHeartbeats 4000000 in
theorem large_any {w : World} (c : Ct) (A : Option Addr) (cp : Nat) (hx : SX w (.slice A c.names.length cp) c.names) (hl : c.names.length ≤ 9223372036854775807) (hk : c.key.length ≤ 9223372036854775807) (hg : c.sig.length ≤ 9223372036854775807) (hn : ∀ n ∈ c.names, n.length ≤ 9223372036854775807) :
    Calls Tryd.prog 7 #[certV c (.slice A c.names.length cp)] w (LargeP w c) := by
  obtain ⟨W1, hW⟩ : ∃ W1, W1 = w.alloc (cellsC c (.slice A c.names.length cp)) := ⟨_, rfl⟩
  have HC := Lib.hid (show CB W1 w.heap.size c (.slice A c.names.length cp) by rw [hW]; exact CB.new _ _ _)
  have HB := Lib.hid (show Below w.heap.size w W1 by rw [hW]; exact below_alloc _ _)
  have HX := Lib.hid (show SX W1 (.slice A c.names.length cp) c.names by rw [hW]; exact hx.step (below_alloc _ _))
  have HW := Lib.hid hW
  have HN := Lib.hid hn
  have HS := Lib.hid (show smallCt c ↔ min 9000 c.key.length + min 9000 c.sig.length + bulkN c.names < 9000 from Iff.rfl)
  obtain ⟨key, sig, names, fr, un, ca⟩ := c
  simp only at HX HN HS hl hk hg
  have c0 := HC.out.c0
  have c1 := HC.out.c1
  have c2 := HC.out.c2
  simp only at c0 c1 c2
  have hz0 := str_size key
  have hz1 := str_size sig
  obtain ⟨S, hS⟩ : ∃ S, S = min 9000 key.length + min 9000 sig.length := ⟨_, rfl⟩
  have hS2 : (S : Int) = min 9000 (key.length : Int) + min 9000 (sig.length : Int) := by rw [hS]; omega
  have hS3 : S ≤ 18000 := by omega
  rw [← hS] at HS
  have HSE := Lib.hid hS2
  have m1 : (0 : Int) ≤ min 9000 (key.length : Int) := by omega
  have m2 : min 9000 (key.length : Int) ≤ 9000 := by omega
  have m3 : (0 : Int) ≤ min 9000 (sig.length : Int) := by omega
  have m4 : min 9000 (sig.length : Int) ≤ 9000 := by omega
  clear hx hn hW hS hS2
  unfold certV
  go_enter Tryd.func7, Tryd.ntmps7
  go_wp2_with fail
  rw [← HW.out]
  go_wp2_with fail
  rw [← HSE.out]
  go_loop [3, 4] (fun n i => ∃ k : Nat, k ≤ names.length ∧ i = .int .i64 k ∧ n = .int .i64 ((S + bulkN (names.take k) : Nat) : Int) ∧ S + bulkN (names.take k) < 40000) (fun _ i => names.length - (intOf i).toNat)
  case atStart => exact ⟨0, Nat.zero_le _, rfl, by simp [bulkN], by simp [bulkN]; omega⟩
  case round =>
    obtain ⟨k, hk, rfl, rfl, hb⟩ := hrel
    obtain ⟨T, hT⟩ : ∃ T, T = S + bulkN (names.take k) := ⟨_, rfl⟩
    rw [← hT] at hb ⊢
    have HT := Lib.hid hT
    clear hT
    by_cases hlt : k < names.length
    · have hlt' : (k : Int) < (names.length : Int) := by omega
      by_cases h9 : T < 9000
      · have h9' : (T : Int) < 9000 := by omega
        obtain ⟨g, off, rfl, _, a0⟩ := HX.out.at hlt
        have hxl := HN.out _ (mem_getD hlt)
        have HK := Lib.hid (bulk_take hlt)
        obtain ⟨x, hxe⟩ : ∃ x, x = names.getD k [] := ⟨_, rfl⟩
        rw [← hxe] at a0 hxl HK
        have hz2 := str_size x
        have n1 : (0 : Int) ≤ min 9000 (x.length : Int) := by omega
        have n2 : min 9000 (x.length : Int) ≤ 9000 := by omega
        have HST := Lib.hid (show S + bulkN (names.take (k + 1)) = T + 10 + min 9000 x.length by rw [HK.out, HT.out]; omega)
        clear hxe
        go_wp2_with fail
        go_round
        case rel => exact ⟨k + 1, by omega, by go_num, by rw [HST.out]; go_num, by rw [HST.out]; omega⟩
        case measure => simp [intOf]; omega
      · have h9' : ¬ (T : Int) < 9000 := by omega
        have h9d : decide ((9000 : Int) ≤ (T : Int)) = true := by simpa using h9'
        have h9e : (9000 : Int) ≤ (T : Int) := by omega
        go_wp2_with fail
        go_ret
        exact ⟨true, rfl, HB.out, fun h => by simp at h⟩
    · obtain rfl : k = names.length := by omega
      rw [List.take_length] at HT
      have HF := Lib.hid (show ∀ b : Bool, b = decide ((9000 : Int) ≤ (T : Int)) → b = false → S + bulkN names < 9000 by
        rintro b rfl h
        rw [decide_eq_false_iff_not] at h
        rw [← HT.out]; omega)
      go_wp2_with fail
      go_ret
      exact ⟨_, rfl, HB.out, fun h => HS.out.2 (HF.out _ rfl h)⟩
end Go.Proofs.YtamlblfhjpajhaaDoor
