/-
  The contracts of the laws' calls, with whatever lies by kept.
-/
import Derived.Test.YtnaoandleelbkaaGreatDoorUWm
import Derived.Test.YtnaoandleelbkaaGreatDoorJWm
namespace Go.Proofs.YtnaoandleelbkaaGreatDoor
set_option linter.unusedSimpArgs false
set_option linter.unusedVariables false
open Go Go.RowKit
set_option maxRecDepth 100000

/-- What stays behind new memory, where the laid variables are as they are. -/
structure Cu (P : World → Prop) : Prop where
  step : ∀ {W W' : World}, P W → Below W.heap.size W W' → P W'
  gu : ∀ {W : World}, P W → GU W
theorem Cu.mk0 {w : World} : Cu (Gu w) := ⟨fun h hb => h.step hb, fun h => h.2⟩
theorem Cu.and {P : World → Prop} (h : Cu P) {Q : World → Prop} (hQ : ∀ {W W' : World}, Q W → Below W.heap.size W W' → Q W') : Cu (fun W => P W ∧ Q W) := ⟨fun h1 hb => ⟨h.step h1.1 hb, hQ h1.2 hb⟩, fun h1 => h.gu h1.1⟩
theorem Cu.ga {P : World → Prop} (h : Cu P) {W : World} (h1 : P W) : GA W := (h.gu h1).ga
theorem Cu.drew {P : World → Prop} (h : Cu P) {W : World} (h1 : P W) : P W.drew := h.step h1 (Below.refl _ _).drew
theorem Cu.alloc {P : World → Prop} (h : Cu P) {W : World} (h1 : P W) (o : Obj) : P (W.alloc o) := h.step h1 (below_alloc _ _)
theorem rr_one (W : World) (k : Nat) (r : Rc) (hk : k = W.heap.size) : RR (W.alloc (cellsR r)) (some ⟨k, 0, none⟩) [r] := fun _ => by
  subst hk
  refine ⟨_, 0, rfl, by simp, fun j hj => ?_⟩
  obtain rfl : j = 0 := by simp at hj; exact hj
  exact (RB.new W r).range
theorem few9.t {xs : List (List UInt8)} {l : List Rc} (h : few9 xs l) : xs.length ≤ 900 := h.1
theorem few9.x {xs : List (List UInt8)} {l : List Rc} (h : few9 xs l) : ∀ x ∈ xs, x.length ≤ 9000 := h.2.1
theorem few9.l {xs : List (List UInt8)} {l : List Rc} (h : few9 xs l) : l.length ≤ 900 := h.2.2.1
theorem few9.r {xs : List (List UInt8)} {l : List Rc} (h : few9 xs l) : ∀ r ∈ l, r.da.length ≤ 9000 := h.2.2.2
section
variable {P : World → Prop} {W : World} (hP : Cu P) (h : P W)
include hP h
theorem works_u : Calls Tryz.prog 45 #[] W fun e w' => e = .returned (.bool true) ∧ P w' := (works16_any (hP.gu h)).mono fun e w' ⟨h1, h2⟩ => ⟨h1, hP.step h h2⟩
theorem matches_u (r : Rc) {chain : List (List UInt8)} {A : Option Addr} {cp : Nat} {host : List UInt8} (now : Int) (hx : SX W (.slice A chain.length cp) chain) (hl : ∀ s ∈ chain, s.length ≤ 1000000) (hcp : chain.length ≤ cp) (hlen : chain.length ≤ 1000000) (hh : host.length ≤ 1000000) {n : Nat} (hn : chain.length = n) :
    Calls Tryz.prog 49 #[.agg #[.int .u8 (r.us : Int), .int .u8 (r.se : Int), .int .u8 (r.ma : Int), sv r.da], .slice A n cp, sv host, .int .i64 now] W fun e w' => e = .returned (.bool (matchR r chain host now)) ∧ P w' := by
  subst hn
  exact (matches_any r chain A cp host now hx hl hcp (by omega) hh (hP.ga h)).mono fun e w' ⟨h1, h2⟩ => ⟨h1, hP.step h h2⟩
theorem of_u (r : Rc) (x : List UInt8) (hx : x.length ≤ 9223372036854775807) :
    Calls Tryz.prog 58 #[.agg #[.int .u8 (r.us : Int), .int .u8 (r.se : Int), .int .u8 (r.ma : Int), sv r.da], sv x] W fun e w' => e = .returned (.bool (ofB r x)) ∧ P w' :=
  (of_any r x hx (hP.ga h)).mono fun e w' ⟨h1, h2⟩ => ⟨h1, hP.step h h2⟩
theorem usable_u (r : Rc) :
    Calls Tryz.prog 46 #[.agg #[.int .u8 (r.us : Int), .int .u8 (r.se : Int), .int .u8 (r.ma : Int), sv r.da]] W fun e w' => e = .returned (.bool (usableB r)) ∧ P w' :=
  (usable_any r).mono fun e w' ⟨h1, h2⟩ => ⟨h1, hP.step h h2⟩
theorem any_u {l : List Rc} {A : Option Addr} {cp : Nat} {chain : List (List UInt8)} {B : Option Addr} {bc : Nat} {host : List UInt8} (now : Int) (hr : RR W A l) (hl : ∀ r ∈ l, r.da.length ≤ 1000000) (hcp : l.length ≤ cp) (hlen : l.length ≤ 1000000)
    (hx : SX W (.slice B chain.length bc) chain) (hcl : ∀ s ∈ chain, s.length ≤ 1000000) (hbc : chain.length ≤ bc) (hbl : chain.length ≤ 1000000) (hh : host.length ≤ 1000000) {n m : Nat} (hn : l.length = n) (hm : chain.length = m) :
    Calls Tryz.prog 50 #[.slice A n cp, .slice B m bc, sv host, .int .i64 now] W fun e w' => e = .returned (.bool (anyR l chain host now)) ∧ P w' := by
  subst hn hm
  exact (any_any l A cp chain B bc host now hr (fun r hr => by have := hl r hr; omega) hcp (by omega) hx hcl hbc (by omega) hh (hP.ga h)).mono fun e w' ⟨h1, h2⟩ => ⟨h1, hP.step h h2⟩
theorem usables_u {l : List Rc} {A : Option Addr} {cp : Nat} (hr : RR W A l) (hl : ∀ r ∈ l, r.da.length ≤ 1000000) (hcp : l.length ≤ cp) (hlen : l.length ≤ 1000000) {n : Nat} (hn : l.length = n) :
    Calls Tryz.prog 51 #[.slice A n cp] W fun e w' => ∃ A' c', e = .returned (.slice A' (usablesL l).length c') ∧ (usablesL l).length ≤ c' ∧ RR w' A' (usablesL l) ∧ P w' := by
  subst hn
  refine (usables_any l A cp hr (fun r hr => by have := hl r hr; omega) hcp (by omega)).mono ?_
  rintro e w' ⟨v, rfl, hro, hb⟩
  obtain ⟨A', c', rfl, hc⟩ := hro.form
  exact ⟨A', c', rfl, hc, hro.rr, hP.step h hb⟩
theorem read_u {chain : List (List UInt8)} {A : Option Addr} {cp : Nat} (hx : SX W (.slice A chain.length cp) chain) (hl : ∀ s ∈ chain, s.length ≤ 1000000) (hcp : chain.length ≤ cp) (hlen : chain.length ≤ 1000000) {n : Nat} (hn : chain.length = n) :
    Calls Tryz.prog 35 #[.slice A n cp] W fun e w' => ∃ A0 c0 nv, e = .returned (.slice A0 (chainT chain).length c0) ∧ (chainT chain).length ≤ c0 ∧ P w' ∧ CR w' A0 (chainT chain) nv := by
  subst hn
  exact (tread_any chain A cp hx (fun s hs => by have := hl s hs; omega) hcp (by omega) (hP.ga h).gl).mono fun e w' ⟨v, ps, h1, h2, h3, h4, h5⟩ => by
    obtain ⟨A0, c0, rfl, hc, hcr⟩ := h3.cr h4
    have hl : ps.length = (chainT chain).length := by rw [← h2, List.length_map]
    rw [h2] at hcr
    exact ⟨A0, c0, _, by rw [h1, hl], by rw [← hl]; exact hc, hP.step h h5, hcr⟩
theorem host_u (c : Ct) (a : Option Addr) (cc : Nat) (host : List UInt8) (hx : SX W (.slice a c.names.length cc) c.names) (hs : shortC c) (hh : host.length ≤ 1000000) :
    Calls Tryz.prog 38 #[.agg #[sv c.key, sv c.sig, .slice a c.names.length cc, .int .i64 c.fr, .int .i64 c.un, .bool c.ca], sv host] W fun e w' => e = .returned (.bool (hostB c host)) ∧ P w' :=
  (host_any c a cc host hx hs hh (hP.ga h).ml).mono fun e w' ⟨h1, h2⟩ => ⟨h1, hP.step h h2⟩
theorem dates_u (c : Ct) (a : Option Addr) (n cc : Nat) (now : Int) :
    Calls Tryz.prog 39 #[.agg #[sv c.key, sv c.sig, .slice a n cc, .int .i64 c.fr, .int .i64 c.un, .bool c.ca], .int .i64 now] W fun e w' => e = .returned (.bool (dateB c now)) ∧ P w' :=
  (dates_any c a n cc now).mono fun e w' ⟨h1, h2⟩ => ⟨h1, hP.step h h2⟩
theorem linked_u {l : List Ct} {A : Option Addr} (cp : Nat) {nv : Nat → Value} (hr : CR W A l nv) (hs : shortR l) {n : Nat} (hn : l.length = n) :
    Calls Tryz.prog 36 #[.slice A n cp] W fun e w' => e = .returned (.bool (linkedB l)) ∧ P w' := by
  subst hn
  exact (linked_any l A cp nv hr hs (hP.ga h)).mono fun e w' ⟨h1, h2⟩ => ⟨h1, hP.step h h2⟩
omit hP in
theorem long_u {xs : List (List UInt8)} {A : Option Addr} {c : Nat} {l : List Rc} {B : Option Addr} {bc : Nat} (hx : SX W (.slice A xs.length c) xs) (hl : xs.length ≤ 9223372036854775807) (hn : ∀ n ∈ xs, n.length ≤ 9223372036854775807)
    (hr : RR W B l) (hrl : l.length ≤ 9223372036854775807) (hrn : ∀ r ∈ l, r.da.length ≤ 9223372036854775807) {m k : Nat} (hm : xs.length = m) (hk : l.length = k) :
    Calls Tryz.prog 54 #[.slice A m c, .slice B k bc] W fun e w' => ((e = .returned (.bool false) ∧ few9 xs l) ∨ e = .returned (.bool true)) ∧ P w' := by
  subst hm hk
  exact (long9_any xs A c l B bc hx hl hn hr hrl hrn).mono fun e w' ⟨h1, h2⟩ => ⟨h1, h2 ▸ h⟩
end
end Go.Proofs.YtnaoandleelbkaaGreatDoor
