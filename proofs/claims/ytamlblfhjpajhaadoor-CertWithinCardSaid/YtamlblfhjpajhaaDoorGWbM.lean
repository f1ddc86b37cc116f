/-
  CertWithin, walked.
  CertWithin, walked.
-/
import Derived.Deep.RegionHeld3
import Derived.Test.YtamlblfhjpajhaaDoorGUpM
import Derived.Test.YtamlblfhjpajhaaDoorGWithG
import Derived.Test.YtamlblfhjpajhaaDoorGWithL
import Derived.Test.YtamlblfhjpajhaaDoorGWithN
namespace Go.Proofs.YtamlblfhjpajhaaDoor
set_option linter.unusedSimpArgs false
set_option linter.unusedVariables false
open Go Go.RowKit
set_option maxRecDepth 100000

set_option maxHeartbeats 40000000 in
theorem certWithin_big {w : World} (c : Ct) (A : Option Addr) (cp : Nat) (hx : SX w (.slice A c.names.length cp) c.names) (hi : inC c) (key : List UInt8) (hk : key.length ≤ 140737488351232) (name : List UInt8) (hn : name.length ≤ 140737488351232) (hw : GL w) (hlw : LWc w) (hbig : 300 < key.length ∨ 300 < name.length) :
    Calls Tryd.prog 5 #[certV c (.slice A c.names.length cp), sv key, sv name] w fun e w' => e = .returned (.bool true) ∧ Below w.heap.size w w' := by
  have hP0 := Cl.box (@Cl.gb2 w) w.heap.size c A cp
  obtain ⟨P, hPe⟩ : ∃ P : World → Prop, P = fun W => (Gb w W ∧ LWc W) ∧ BX W w.heap.size c A cp := ⟨_, rfl⟩
  rw [← hPe] at hP0
  have HP := Lib.hid hP0
  obtain ⟨W1, hW⟩ : ∃ W1, W1 = w.alloc (cellsC c (.slice A c.names.length cp)) := ⟨_, rfl⟩
  have HP1 := Lib.hid (show P W1 by
    rw [hPe, hW]
    exact box_new (@Cl.gb2 w) ⟨Gb.start hw, hlw⟩ hx)
  have HU := Lib.hid (show ∀ W, P W → (Gb w W ∧ LWc W) ∧ BX W w.heap.size c A cp by rw [hPe]; exact fun W h => h)
  obtain ⟨k, hk0⟩ : ∃ k, k = w.heap.size := ⟨_, rfl⟩
  have HBL := Lib.hid (fun W (h : P W) => (HU.out W h).1.1.1)
  have hC := fun W (h : P W) => (HU.out W h).2.cells
  have HX := Lib.hid (fun W (h : P W) => (HU.out W h).2.sx)
  have HLW := Lib.hid (fun W (h : P W) => (HU.out W h).1.2)
  have hL := fun W (h : P W) => (HU.out W h).2.1.lt
  rw [← hk0] at hC hL
  have HKL := Lib.hid hL
  have HC := Lib.hid hC
  have HWK := Lib.hid (fun W (h : P W) => works_p HP.out h)
  have HLC := Lib.hid (fun W (h : P W) => large_p HP.out h (HX.out W h) hi)
  have hEC := fun W (h : P W) (hs : smallCt c) => encode_p HP.out h (HX.out W h) hs.short.2.2.2.2
  have HW := Lib.hid hW
  have HK := Lib.hid hk0
  have hzk := str_size key
  have hzn := str_size name
  have hik := hi.1
  clear hW hk0 hx hi hw hlw hP0 hPe hC hL
  rcases Nat.lt_or_ge 300 key.length with h | h
  · have h' : (300 : Int) < (key.length : Int) := by omega
    unfold certV
    obtain ⟨a0, a1, a2, a3, a4, a5⟩ := HC.out _ HP1.out
    go_enter Tryd.func5, Tryd.ntmps5
    go_wp2_with fail
    rw [← HW.out, ← HK.out]
    go_wp2_with (first
      | (go_at_call 6; with_reducible refine (HWK.out _ HP1.out).mono ?_; rintro e w1 ⟨rfl, p1⟩; have HP2 := Lib.hid p1; obtain ⟨a0, a1, a2, a3, a4, a5⟩ := HC.out _ p1; clear p1)
      | (go_at_call 7; with_reducible refine (HLC.out _ HP2.out).mono ?_; rintro e w2 ⟨hb, p2⟩; have HP3 := Lib.hid p2; clear p2 a0 a1 a2 a3 a4 a5; rcases hb with ⟨rfl, hsc⟩ | rfl))
    · go_wp2_with (go_at_call 6; refine (HWK.out _ HP3.out).mono ?_; rintro e wz ⟨rfl, pz⟩)
      go_ret
      exact ⟨rfl, HBL.out _ pz⟩
    · go_wp2_with (go_at_call 6; refine (HWK.out _ HP3.out).mono ?_; rintro e wz ⟨rfl, pz⟩)
      go_ret
      exact ⟨rfl, HBL.out _ pz⟩
  · have h2 : ¬ (300 : Int) < (key.length : Int) := by omega
    have h3 : (300 : Int) < (name.length : Int) := by omega
    unfold certV
    obtain ⟨a0, a1, a2, a3, a4, a5⟩ := HC.out _ HP1.out
    go_enter Tryd.func5, Tryd.ntmps5
    go_wp2_with fail
    rw [← HW.out, ← HK.out]
    go_wp2_with (first
      | (go_at_call 6; with_reducible refine (HWK.out _ HP1.out).mono ?_; rintro e w1 ⟨rfl, p1⟩; have HP2 := Lib.hid p1; obtain ⟨a0, a1, a2, a3, a4, a5⟩ := HC.out _ p1; clear p1)
      | (go_at_call 7; with_reducible refine (HLC.out _ HP2.out).mono ?_; rintro e w2 ⟨hb, p2⟩; have HP3 := Lib.hid p2; clear p2 a0 a1 a2 a3 a4 a5; rcases hb with ⟨rfl, hsc⟩ | rfl))
    · go_wp2_with (go_at_call 6; refine (HWK.out _ HP3.out).mono ?_; rintro e wz ⟨rfl, pz⟩)
      go_ret
      exact ⟨rfl, HBL.out _ pz⟩
    · go_wp2_with (go_at_call 6; refine (HWK.out _ HP3.out).mono ?_; rintro e wz ⟨rfl, pz⟩)
      go_ret
      exact ⟨rfl, HBL.out _ pz⟩
end Go.Proofs.YtamlblfhjpajhaaDoor

namespace Go.Proofs.YtamlblfhjpajhaaDoor
set_option linter.unusedSimpArgs false
set_option linter.unusedVariables false
open Go Go.RowKit
set_option maxRecDepth 100000

theorem certWithin_walk {w : World} (c : Ct) (A : Option Addr) (cp : Nat) (hx : SX w (.slice A c.names.length cp) c.names) (hi : inC c) (key : List UInt8) (hk : key.length ≤ 140737488351232) (name : List UInt8) (hn : name.length ≤ 140737488351232) (hw : GL w) (hlw : LWc w) :
    Calls Tryd.prog 5 #[certV c (.slice A c.names.length cp), sv key, sv name] w fun e w' => e = .returned (.bool true) ∧ Below w.heap.size w w' := by
  by_cases hbig : 300 < key.length ∨ 300 < name.length
  · exact certWithin_big c A cp hx hi key hk name hn hw hlw hbig
  by_cases h1 : 1 ≤ key.length
  · by_cases h64 : key.length ≤ 64
    · exact certWithin_good c A cp hx hi key hk name hn hw hlw hbig h1 h64
    · exact certWithin_long c A cp hx hi key hk name hn hw hlw hbig h1 h64
  · exact certWithin_none c A cp hx hi key hk name hn hw hlw hbig h1
end Go.Proofs.YtamlblfhjpajhaaDoor
