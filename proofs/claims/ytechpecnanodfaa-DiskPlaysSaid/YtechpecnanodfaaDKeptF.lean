/-
  The laws' kept.
-/
import Derived.Test.YtechpecnanodfaaDRow
namespace Go.Proofs.Ytechpecnanodfaa
open Go Go.RowKit Go.Maps
set_option maxRecDepth 100000
set_option linter.unusedSimpArgs false
set_option linter.unusedVariables false

def txs (xs : List (List UInt8)) : List Value := xs.map sv
theorem txs_getD {xs : List (List UInt8)} {j : Nat} (h : j < xs.length) : (txs xs).getD j undef = sv (xs.getD j []) := by
  simp [txs, List.getD_eq_getElem?_getD, List.getElem?_map, List.getElem?_eq_getElem h]
theorem txs_length (xs : List (List UInt8)) : (txs xs).length = xs.length := by simp [txs]
theorem txs_set (xs : List (List UInt8)) (j : Nat) (s : List UInt8) : (txs xs).set j (sv s) = txs (xs.set j s) := by simp [txs, List.map_set]
def bls (B : List Bool) : List Value := B.map Value.bool
theorem bls_getD {B : List Bool} {j : Nat} (h : j < B.length) : (bls B).getD j undef = .bool (B.getD j false) := by
  simp [bls, List.getD_eq_getElem?_getD, List.getElem?_map, List.getElem?_eq_getElem h]
theorem bls_length (B : List Bool) : (bls B).length = B.length := by simp [bls]
theorem bls_set (B : List Bool) (j : Nat) (b : Bool) : (bls B).set j (.bool b) = bls (B.set j b) := by simp [bls, List.map_set]

/-- What kept is to find. -/
structure KeptOK (S : DS) (was now : List (List UInt8)) (D : List Int) : Prop where
  on : S.off = false
  lw : was.length = S.was.length
  ln : now.length = S.was.length
  ok : S.Ok
  l1 : ∀ i : Nat, i < was.length → (was.getD i []).length = 128
  l2 : ∀ i : Nat, i < was.length → (now.getD i []).length = 128
  dr : ∀ k : Nat, k < D.length → ∃ i : Nat, D.getD k 0 = (i : Int) ∧ i < was.length
  at_ : ∀ i : Nat, i < was.length → ∀ j : Nat, j < 128 → (S.now.getD i []).getD j 0 = (was.getD i []).getD j 0 ∨ ((i : Int) ∈ D ∧ (S.now.getD i []).getD j 0 = (now.getD i []).getD j 0)

theorem make_bools (n : Nat) (hn : n ≤ 1024) (W : World) : (Instr.makeSlice 76 (.int .i64 (n : Int)) (.int .i64 (n : Int))).run Try.prog W = .ok (.slice (some ⟨W.heap.size, 0, none⟩) n n) (W.alloc (.cells (bls (List.replicate n false)).toArray 4)) := by
  obtain ⟨i, hi, hz0, hz1, hz2⟩ := info_parts (show (Try.prog.info? 4).map (fun i => (i.zero, i.size, i.bytes)) = some (some (.bool false), 1, 1) by kernel_rfl)
  rw [run_make W _ 4 i _ Try.underlying76 hi hz0 .i64 .i64 n n (by omega) (by omega) (by rw [hz2]; omega) (by omega)]
  congr 3
  apply Array.ext
  · simp [madeCells, hz1, bls]
  · intro j h1 h2
    have hc : (Value.bool false).cells = #[Value.bool false] := rfl
    have hm : ∀ x : Nat, x % 1 = 0 := fun x => by omega
    simp [madeCells, hc, hm, bls]
theorem XR.new (w : World) (e : TypeId) (xs : List Value) (hl : xs.length ≤ 1000000) : XR (w.alloc (.cells xs.toArray e)) e w.heap.size xs.length xs := by
  have := XR.lit (cs := xs.toArray) (heap_alloc_new w (.cells xs.toArray e)) (by simpa using hl)
  simpa using this

def wetL (n : Nat) (D : List Int) (k : Nat) : List Bool := (D.take k).foldl (fun B x => B.set x.toNat true) (List.replicate n false)
theorem wetL_length (n : Nat) (D : List Int) (k : Nat) : (wetL n D k).length = n := by
  unfold wetL
  generalize D.take k = L
  have : ∀ (L : List Int) (B : List Bool), (L.foldl (fun B x => B.set x.toNat true) B).length = B.length := by
    intro L
    induction L with
    | nil => intro B; rfl
    | cons a L ih => intro B; rw [List.foldl_cons, ih, List.length_set]
  rw [this, List.length_replicate]
theorem wetL_step (n : Nat) (D : List Int) {k : Nat} (h : k < D.length) : wetL n D (k + 1) = (wetL n D k).set (D.getD k 0).toNat true := by
  unfold wetL
  rw [List.take_add_one, List.getElem?_eq_getElem h, List.foldl_append]
  simp [List.getD_eq_getElem?_getD, List.getElem?_eq_getElem h]
theorem wetL_all (n : Nat) (D : List Int) (i : Nat) (hi : i < n) (hm : (i : Int) ∈ D) : (wetL n D D.length).getD i false = true := by
  have key : ∀ (L : List Int) (B : List Bool), i < B.length → ((i : Int) ∈ L ∨ B.getD i false = true) → (L.foldl (fun B x => B.set x.toNat true) B).getD i false = true := by
    intro L
    induction L with
    | nil => intro B hb h; rcases h with h | h; cases h; exact h
    | cons a L ih =>
      intro B hb h
      rw [List.foldl_cons]
      refine ih _ (by simpa using hb) ?_
      rcases h with h | h
      · rcases List.mem_cons.1 h with h | h
        · right; rw [← h, getD_set]; simp [hb]
        · exact .inl h
      · right; rw [getD_set]; split; rfl; exact h
  unfold wetL
  rw [List.take_of_length_le (Nat.le_refl _)]
  exact key D _ (by simpa using hi) (.inl hm)

set_option maxHeartbeats 8000000 in
theorem keptF_any {w0 w : World} {os : List Ob} (h : Obs w0 w os) {p bl bd : Nat} {S : DS} (i : Nat) (hi : os[i]? = some (pdOb p bl bd S)) {was now : List (List UInt8)} {g1 c1 g2 c2 : Nat} (i1 i2 : Nat) (h1 : os[i1]? = some (xOb 9 g1 c1 (txs was))) (h2 : os[i2]? = some (xOb 9 g2 c2 (txs now)))
    {A : Option Addr} {c : Nat} {D : List Int} (hD : IR w A D) (hDl : D.length ≤ 1024) (hK : KeptOK S was now D) :
    Calls Try.prog 29 #[dp p, .slice (some ⟨g1, 0, none⟩) was.length c1, .slice (some ⟨g2, 0, none⟩) now.length c2, .slice A D.length c] w fun e w' => e = .returned (.bool true) ∧ Below w.heap.size w w' := by
  have hok := hK.ok
  have hn := hok.n2
  have hlw := hK.lw
  have hln := hK.ln
  have HK := Lib.hid hK
  have H0 := Lib.hid h
  have HI := Lib.hid hi
  have H1 := Lib.hid h1
  have H2 := Lib.hid h2
  have HD := Lib.hid hD
  rw [hln, ← hlw]
  generalize hnn : was.length = n at hlw ⊢
  have hn1024 : n ≤ 1024 := by omega
  have HNN := Lib.hid hnn
  have HLN := Lib.hid hln
  have HLW := Lib.hid hlw
  generalize hdn : D.length = dn at hDl ⊢
  have HDN := Lib.hid hdn
  have HMK := Lib.hid (make_bools n hn1024)
  clear h hi h1 h2 hD hK hok hlw hln hnn hdn hn
  go_enter Try.func29, Try.ntmps29
  go_wp2_with fail
  rw [HMK.out]
  simp only [Result.andThen]
  rw [Oper.upon_value]
  have hx := XR.new w 4 (bls (List.replicate n false)) (by rw [bls_length, List.length_replicate]; omega)
  have hlen : (bls (List.replicate n false)).length = n := by rw [bls_length, List.length_replicate]
  rw [hlen] at hx
  have hb0 : Below w.heap.size w (w.alloc (.cells (bls (List.replicate n false)).toArray 4)) := (Below.refl _ _).alloc (Nat.le_refl _) _
  generalize w.alloc (.cells (bls (List.replicate n false)).toArray 4) = w1 at hx hb0 ⊢
  have HX := Lib.hid hx
  have HB0 := Lib.hid hb0
  clear hx hb0 hlen HMK
  go_wp2_with fail
  go_loopw [10] (fun kx W => ∃ k : Nat, kx = .int .i64 (k : Int) ∧ k ≤ dn ∧ XR W 4 w.heap.size n (bls (wetL n D k)) ∧ Below w.heap.size w W) (fun kx _ => dn - (RowKit.intOf kx).toNat)
  case atStart => exact ⟨0, rfl, by omega, HX.out, HB0.out⟩
  case round =>
    obtain ⟨k, rfl, hk, hx, hB⟩ := hrel
    have HX := Lib.hid hx
    have HB := Lib.hid hB
    by_cases hkd : k < dn
    · obtain ⟨b, o, rfl, hb, hc⟩ := HD.out k (by rw [HDN.out]; exact hkd)
      obtain ⟨d, hd, hdn⟩ := HK.out.dr k (by rw [HDN.out]; exact hkd)
      have hdn2 : d < n := by rw [HNN.out] at hdn; exact hdn
      have hc' : wr.cell? ⟨b, o + k, none⟩ = some (.int .i64 (d : Int)) := by rw [← hd]; exact (hB.cell (p := ⟨b, o + k, none⟩) hb).trans hc
      have hxc := hx.cell (j := d) (by rw [bls_length, wetL_length]; exact hdn2)
      obtain ⟨x, hxe⟩ : ∃ x, x = (bls (wetL n D k)).getD d undef := ⟨_, rfl⟩
      rw [← hxe] at hxc
      obtain ⟨hxc1, hxc2⟩ := hxc
      have hki : (k : Int) < (dn : Int) := by omega
      have hk0 : (0 : Int) ≤ (k : Int) := by omega
      have hdi : (d : Int) < (n : Int) := by omega
      have hd0 : (0 : Int) ≤ (d : Int) := by omega
      have hwr : IntKind.i64.wrap ((k : Int) + 1) = (k : Int) + 1 := IntWalk.i64_in _ (by omega)
      have HST := Lib.hid (show (bls (wetL n D k)).set d (.bool true) = bls (wetL n D (k + 1)) by rw [wetL_step n D (by rw [HDN.out]; exact hkd), hd, bls_set]; simp)
      have HDL := Lib.hid (show d < (bls (wetL n D k)).length by rw [bls_length, wetL_length]; exact hdn2)
      clear hd hdn hc hx hB hxe
      go_wp2_with fail
      go_roundw
      case rel => exact ⟨k + 1, by go_num, by omega, by rw [← HST.out]; exact HX.out.set HDL.out _, HB.out.setCell (Nat.le_refl _) _⟩
      case measure => simp [RowKit.intOf]; omega
    · have hki : ¬ (k : Int) < (dn : Int) := by omega
      have hkk : k = dn := by omega
      have HWA : Hid (∀ i : Nat, i < n → (i : Int) ∈ D → (wetL n D k).getD i false = true) := fun i hi hm => by rw [hkk, ← HDN.out]; exact wetL_all n D i hi hm
      have HWL := Lib.hid (wetL_length n D k)
      generalize wetL n D k = B at HX HWA HWL
      clear hx hB hkk
      go_wp2_with fail
      have HBD := Lib.hid HB.out
      go_loopw [11] (fun kx W => ∃ k : Nat, kx = .int .i64 (k : Int) ∧ k ≤ n ∧ XR W 4 w.heap.size n (bls B) ∧ Below w.heap.size w W) (fun kx _ => n - (RowKit.intOf kx).toNat)
      case atStart => exact ⟨0, rfl, by omega, HX.out, HB.out⟩
      case round =>
        clear hk hkd hki
        obtain ⟨k, rfl, hkn, hx, hB⟩ := hrel
        have HX := Lib.hid hx
        have HB := Lib.hid hB
        by_cases hk : k < n
        · have hki : (k : Int) < (n : Int) := by omega
          have hk0 : (0 : Int) ≤ (k : Int) := by omega
          have hwr : IntKind.i64.wrap ((k : Int) + 1) = (k : Int) + 1 := IntWalk.i64_in _ (by omega)
          have hre : S.rdE (k : Int) = 0 := by
            have := HK.out.on
            have h2 : S.has (k : Int) = true := DS.has_iff.2 ⟨by omega, by have := HLW.out; omega⟩
            simp [DS.rdE, this, h2]
          have hrv : S.rdV (k : Int) = S.now.getD k [] := by simp [DS.rdV, hre]
          have CR := Lib.hid (read_any ((H0.out.step hB).get HI.out) (k : Int))
          rw [hre, hrv] at CR
          have HAT := Lib.hid (HK.out.at_ k (by rw [HNN.out]; exact hk))
          have HL1 := Lib.hid (HK.out.l1 k (by rw [HNN.out]; exact hk))
          have HL2 := Lib.hid (HK.out.l2 k (by rw [HNN.out]; exact hk))
          have hsl : (S.now.getD k []).length = 128 := HK.out.ok.now_len (by have := HLW.out; omega)
          have HWK := Lib.hid (HWA.out k hk)
          generalize S.now.getD k [] = s at CR HAT hsl
          have HBK := Lib.hid (show (bls B).getD k undef = .bool (B.getD k false) from bls_getD (by rw [HWL.out]; exact hk))
          clear hx hB hre hrv
          go_wp2_with (go_at_call 9; refine CR.out.mono ?_; rintro e w2 ⟨rfl, hb2⟩; have HB2 := Lib.hid (HB.out.trans (hb2.mono HB.out.size)); have HX2 := Lib.hid (HX.out.of_block (hb2.block _ HX.out.lt)); clear hb2)
          go_loopw [14] (fun jx W => ∃ j : Nat, jx = .int .i64 (j : Int) ∧ j ≤ 128 ∧ XR W 4 w.heap.size n (bls B) ∧ Below w.heap.size w W) (fun jx _ => 128 - (RowKit.intOf jx).toNat)
          case atStart => exact ⟨0, rfl, by omega, HX2.out, HB2.out⟩
          case round =>
            obtain ⟨j, rfl, hj128, hx, hB⟩ := hrel
            have HX3 := Lib.hid hx
            have HB3 := Lib.hid hB
            by_cases hj : j < 128
            · have hji : (j : Int) < 128 := by omega
              have hj0 : (0 : Int) ≤ (j : Int) := by omega
              have hjw : IntKind.i64.wrap ((j : Int) + 1) = (j : Int) + 1 := IntWalk.i64_in _ (by omega)
              have hO := H0.out.step hB
              have hcw := ((hO.get H1.out : XR wr 9 g1 c1 (txs was)).cell (j := k) (by rw [txs_length, HNN.out]; exact hk)).1
              have hcn := ((hO.get H2.out : XR wr 9 g2 c2 (txs now)).cell (j := k) (by rw [txs_length, HLN.out, ← HLW.out]; exact hk)).1
              have hcb := (hx.cell (j := k) (by rw [bls_length, HWL.out]; exact hk)).1
              rw [txs_getD (by rw [HNN.out]; exact hk)] at hcw
              rw [txs_getD (by rw [HLN.out, ← HLW.out]; exact hk)] at hcn
              rw [HBK.out] at hcb
              have hAT := HAT.out j hj
              have hl1 := HL1.out
              have hl2 := HL2.out
              generalize was.getD k [] = a at hcw hAT hl1
              generalize now.getD k [] = b at hcn hAT hl2
              have hls : (str s).size = 128 := by show s.toArray.size = 128; simpa using hsl
              have hla : (str a).size = 128 := by show a.toArray.size = 128; simpa using hl1
              have hlb : (str b).size = 128 := by show b.toArray.size = 128; simpa using hl2
              obtain ⟨x, hx1, hx2⟩ : ∃ x : UInt8, (str s)[j]'(by omega) = x ∧ x = s.getD j 0 := ⟨_, rfl, str_getD s j (by omega) _⟩
              obtain ⟨y, hy1, hy2⟩ : ∃ x : UInt8, (str a)[j]'(by omega) = x ∧ x = a.getD j 0 := ⟨_, rfl, str_getD a j (by omega) _⟩
              obtain ⟨z, hz1, hz2⟩ : ∃ x : UInt8, (str b)[j]'(by omega) = x ∧ x = b.getD j 0 := ⟨_, rfl, str_getD b j (by omega) _⟩
              rw [← hx2, ← hy2, ← hz2] at hAT
              clear hx2 hy2 hz2 hx hB hO hl1 hl2
              by_cases hxy : x = y
              · subst hxy
                clear hAT
                go_wp2_with fail
                go_big_quiet (fail)
                go_wp2_with fail
                go_roundw
                case rel => exact ⟨j + 1, by go_num, by omega, HX3.out.of_block rfl, ⟨HB3.out.os, HB3.out.tape, HB3.out.output, HB3.out.size, HB3.out.block⟩⟩
                case measure => simp [RowKit.intOf]; omega
              · rcases hAT with hAT | ⟨hm, hAT⟩
                · exact absurd hAT hxy
                · have hne : ((x.toNat : Int) != (y.toNat : Int)) = true := by
                    rw [bne_iff_ne]
                    intro e
                    exact hxy (UInt8.toNat_inj.1 (by omega))
                  rw [HWK.out hm] at hcb
                  subst hAT
                  clear hxy hm
                  go_wp2_with fail
                  go_big_quiet (fail)
                  go_wp2_with fail
                  go_roundw
                  case rel => exact ⟨j + 1, by go_num, by omega, HX3.out.of_block rfl, ⟨HB3.out.os, HB3.out.tape, HB3.out.output, HB3.out.size, HB3.out.block⟩⟩
                  case measure => simp [RowKit.intOf]; omega
            · have hji : ¬ (j : Int) < 128 := by omega
              clear hx hB
              go_wp2_with fail
              go_roundw
              case rel => exact ⟨k + 1, by go_num, by omega, HX3.out, HB3.out⟩
              case measure => simp [RowKit.intOf]; omega
        · have hki : ¬ (k : Int) < (n : Int) := by omega
          clear hx hB
          go_wp2_with fail
          go_ret
          exact ⟨rfl, HB.out⟩
end Go.Proofs.Ytechpecnanodfaa
