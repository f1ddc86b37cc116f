/-
  The reference's New of what is no number of sectors; the reference's disk as a thing: its methods.
-/
import Derived.Test.YtechpecnanodfaaDRef6
namespace Go.Proofs.Ytechpecnanodfaa
open Go Go.RowKit Go.Maps
set_option maxRecDepth 100000
set_option linter.unusedSimpArgs false
set_option linter.unusedVariables false

set_option maxHeartbeats 1000000 in
theorem new_none_rd {w : World} {a : Int} (h : a < 1 ∨ 1024 < a) :
    Calls Try.prog 24 #[.int .i64 a] w fun e w' => e = .returned (.tuple #[.pointer none, .int .i64 1]) ∧ Below w.heap.size w w' := by
  by_cases h1 : a < 1
  · clear h
    go_enter Try.func24, Try.ntmps24
    go_wp2_with fail
    go_ret2
    exact ⟨rfl, Below.refl _ _⟩
  · have h2 : 1024 < a := by omega
    clear h
    go_enter Try.func24, Try.ntmps24
    go_wp2_with fail
    go_ret2
    exact ⟨rfl, Below.refl _ _⟩

section
variable {w0 w : World} {os : List Ob} {q g1 g2 g3 : Nat} {S : DS} (h : Obs w0 w os) (i : Nat) (hi : os[i]? = some (rdOb q g1 g2 g3 S))
include h hi
theorem Obs.turnR {w' : World} {T : DS} (hR : RT w w' q g1 g2 g3 T) : ∃ h1 h2 h3, Obs w0 w' (os.set i (rdOb q h1 h2 h3 T)) := by
  obtain ⟨h1, h2, h3, hD, hk, hb⟩ := hR
  exact ⟨h1, h2, h3, h.turn i hi (rdOb q h1 h2 h3 T) hD (rdOb_stays _ _ _ _ _) hk (fun b hb' => ⟨hb b hb', hD.lts b hb'⟩)⟩
theorem readR_o (a : Int) : Calls Try.prog 43 #[dp q, .int .i64 a] w fun e w' => e = .returned (.tuple #[sv (S.rdV a), .int .i64 (S.rdE a)]) ∧ Obs w0 w' os :=
  (read_rd (h.get hi) a).mono fun e w' hh => ⟨hh.1, h.step hh.2⟩
theorem failR_o {a : Int} (ha : (-9223372036854775808 : Int) ≤ a ∧ a ≤ 9223372036854775807) : Calls Try.prog 41 #[dp q, .int .i64 a] w fun e w' => e = .returned (.tuple #[]) ∧ ∃ h1 h2 h3, Obs w0 w' (os.set i (rdOb q h1 h2 h3 (S.fail a))) :=
  (fail_rd (h.get hi) ha).mono fun e w' hh => ⟨hh.1, h.turnR i hi (.same hh.2.1 (hh.2.2.mono (by simp)))⟩
theorem writeR_o (hops : S.ops < 4611686018427387904) (a : Int) (s : List UInt8) (hsl : s.length ≤ 140737488355328) : Calls Try.prog 39 #[dp q, .int .i64 a, sv s] w fun e w' => e = .returned (.int .i64 (S.wrE a s)) ∧ ∃ h1 h2 h3, Obs w0 w' (os.set i (rdOb q h1 h2 h3 (S.wr a s))) :=
  (write_rd (h.get hi) hops a s hsl).mono fun e w' hh => ⟨hh.1, h.turnR i hi (.same hh.2.1 (hh.2.2.mono (by simp)))⟩
theorem syncR_o (hops : S.ops < 4611686018427387904) : Calls Try.prog 40 #[dp q] w fun e w' => e = .returned (.int .i64 S.offE) ∧ ∃ h1 h2 h3, Obs w0 w' (os.set i (rdOb q h1 h2 h3 S.sync)) :=
  (sync_rd (h.get hi) hops).mono fun e w' hh => ⟨hh.1, h.turnR i hi hh.2⟩
theorem bootR_o {Ak : Option Addr} {ck : Nat} {L : List Int} (hL : IR w Ak L) (hLA : ∀ a, Ak = some a → L ≠ [] → a.block ∉ [q, g1, g2, g3]) (hLl : L.length ≤ 100000) :
    Calls Try.prog 42 #[dp q, .slice Ak L.length ck] w fun e w' => e = .returned (.int .i64 S.bootE) ∧ ∃ h1 h2 h3, Obs w0 w' (os.set i (rdOb q h1 h2 h3 (S.boot L))) :=
  (boot_rd (h.get hi) hL hLA hLl).mono fun e w' hh => ⟨hh.1, h.turnR i hi hh.2⟩
theorem dirtyR_o : Calls Try.prog 44 #[dp q] w fun e w' => ∃ A c, e = .returned (.slice A (dL S.wet).length c) ∧ IR w' A (dL S.wet) ∧ (∀ a, A = some a → w.heap.size ≤ a.block) ∧ Below w.heap.size w w' := dirty_rd (h.get hi)
end
theorem newR_o {w0 w : World} {os : List Ob} (h : Obs w0 w os) {n : Nat} (h1 : 1 ≤ n) (h2 : n ≤ 1024) :
    Calls Try.prog 24 #[.int .i64 (n : Int)] w fun e w' => ∃ q g1 g2 g3, e = .returned (.tuple #[dp q, .int .i64 0]) ∧ Obs w0 w' (os ++ [rdOb q g1 g2 g3 (DS.new n)]) :=
  (new_rd h1 h2).mono fun e w' hh => by
    obtain ⟨q, g1, g2, g3, he, hD, hb, hg⟩ := hh
    exact ⟨q, g1, g2, g3, he, h.add _ hD (rdOb_stays _ _ _ _ _) hb (fun b hb' => ⟨hg b hb', hD.lts b hb'⟩)⟩
end Go.Proofs.Ytechpecnanodfaa
