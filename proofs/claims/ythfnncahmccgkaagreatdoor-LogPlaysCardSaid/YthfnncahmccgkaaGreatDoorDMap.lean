/-
  A map of sectors: what it holds, by its keys; a look-up, a store, a delete; its keys.
-/
import Derived.Lib.SlKeysI
import Derived.Test.YthfnncahmccgkaaGreatDoorDW
namespace Go.Proofs.YthfnncahmccgkaaGreatDoor
open Go Go.RowKit Go.Maps
set_option maxRecDepth 100000
set_option linter.unusedSimpArgs false
set_option linter.unusedVariables false

/-- A byte as a value; a sector as a value. -/
abbrev b8 (b : UInt8) : Value := .int .u8 (b.toNat : Int)
def cellsOf (l : List UInt8) : List Value := l.map b8
abbrev sec (l : List UInt8) : Value := .agg (cellsOf l).toArray
def zrL : List UInt8 := List.replicate 128 0
theorem cellsOf_length (l : List UInt8) : (cellsOf l).length = l.length := by simp [cellsOf]
theorem cellsOf_one (l : List UInt8) : ∀ v ∈ cellsOf l, v.oneCell' = true := by
  intro v hv
  simp only [cellsOf, List.mem_map] at hv
  obtain ⟨b, _, rfl⟩ := hv
  rfl
theorem zrL_length : zrL.length = 128 := by simp [zrL]

def isByte : Value → Bool
  | .int .u8 a => decide (0 ≤ a) && decide (a < 256)
  | _ => false
def byteOf : Value → UInt8
  | .int _ a => UInt8.ofNat a.toNat
  | _ => 0
/-- How a sector reads. -/
def secR : Value → Option (DataW Unit × List MemPlace)
  | .agg C => if C.toList.all isByte && C.size == 128 then some (.lit (.string (C.toList.map byteOf)), []) else none
  | _ => none
theorem isByte_b8 (b : UInt8) : isByte (b8 b) = true := by
  have := b.toNat_lt
  simp [isByte]; omega
theorem byteOf_b8 (b : UInt8) : byteOf (b8 b) = b := by simp [byteOf]
theorem b8_of {v : Value} (h : isByte v = true) : v = b8 (byteOf v) := by
  cases v <;> simp [isByte] at h
  rename_i q a
  cases q <;> simp at h
  have h2 : (UInt8.ofNat a.toNat).toNat = a.toNat := by simp; omega
  simp only [b8, byteOf, h2]
  congr 1
  omega
theorem secR_sec {l : List UInt8} (h : l.length = 128) : secR (sec l) = some (.lit (.string l), []) := by
  have h1 : (cellsOf l).all isByte = true := by
    rw [List.all_eq_true]
    intro v hv
    simp only [cellsOf, List.mem_map] at hv
    obtain ⟨b, _, rfl⟩ := hv
    exact isByte_b8 b
  have h2 : (cellsOf l).map byteOf = l := by
    simp only [cellsOf, List.map_map]
    conv => rhs; rw [← List.map_id l]
    exact List.map_congr_left (fun b _ => byteOf_b8 b)
  simp [secR, h1, h2, cellsOf_length, h]
theorem secR_inv {v : Value} {d : DataW Unit} {ps : List MemPlace} (h : secR v = some (d, ps)) : ∃ l : List UInt8, v = sec l ∧ l.length = 128 ∧ d = .lit (.string l) := by
  unfold secR at h
  split at h
  · rename_i C
    split at h
    · rename_i hc
      simp only [Bool.and_eq_true, beq_iff_eq, List.all_eq_true] at hc
      cases h
      refine ⟨C.toList.map byteOf, ?_, by simp [hc.2], rfl⟩
      have : cellsOf (C.toList.map byteOf) = C.toList := by
        simp only [cellsOf, List.map_map]
        conv => rhs; rw [← List.map_id C.toList]
        exact List.map_congr_left (fun v hv => (b8_of (hc.1 v hv)).symm)
      simp only [sec, this]
    · cases h
  · cases h

abbrev iK (k : Int) : Lit := .int .i64 k
theorem law3 : Keyed Tryz.prog 3 := int_keyed Tryz.underlying3
theorem hz66 : ∀ w, (zeroValue 92).run Tryz.prog w = .ok (sec zrL) w := (zero_of_info (P := Tryz.prog) (n := 128) (by kernel_rfl)).1

/-- Block b is a map from numbers to sectors that holds F. -/
def MP (w : World) (b : Nat) (F : Int → Option (List UInt8)) : Prop :=
  ∃ D : DataW Unit, w.ownsMap Tryz.prog 3 secR b 1024 D ∧ (∀ k z, D.atKey (iK k) z = match F k with | some s => .lit (.string s) | none => z) ∧
    ∀ k s, F k = some s → 0 ≤ k ∧ k < 1024 ∧ s.length = 128

theorem MP.lt {w : World} {b : Nat} {F : Int → Option (List UInt8)} (h : MP w b F) : b < w.heap.size := by
  obtain ⟨D, hD, _⟩ := h
  exact hD.lt
theorem MP.isMap {w : World} {b : Nat} {F : Int → Option (List UInt8)} (h : MP w b F) : ∃ es clock, w.heap[b]? = some (.map es clock) := by
  obtain ⟨D, ⟨es, clock, hb, _⟩, _⟩ := h
  exact ⟨es, clock, hb⟩
theorem MP.of_block {w w' : World} {b : Nat} {F : Int → Option (List UInt8)} (h : MP w b F) (hb : w'.heap[b]? = w.heap[b]?) : MP w' b F := by
  obtain ⟨D, ⟨es, clock, hb', r⟩, hD⟩ := h
  exact ⟨D, ⟨es, clock, hb.trans hb', r⟩, hD⟩
theorem MP.kp {S : List Nat} {w w' : World} {b : Nat} {F : Int → Option (List UInt8)} (h : MP w b F) (hk : Kp S w w') (hs : b ∉ S) : MP w' b F := h.of_block (hk.block b h.lt hs)

theorem wfK {k : Int} (h0 : 0 ≤ k) (h1 : k < 1024) : (Lit.int .i64 k).wf = true := WalkArith.wf_i64 (by omega)

theorem keyOf3 {k : Int} (hw : (iK k).wf = true) : keyOf Tryz.prog 3 (.int .i64 k) = some (iK k) := keyOf_int_mk Tryz.underlying3 hw

theorem mp_has {D : DataW Unit} {F : Int → Option (List UInt8)} (hD : ∀ k z, D.atKey (iK k) z = match F k with | some s => .lit (.string s) | none => z) (k : Int) : has D (iK k) = (F k).isSome := by
  cases hF : F k with
  | none =>
    exact has_false_of_atKey (fun z => by rw [hD, hF])
  | some s =>
    exact has_true_of_atKey (y := .lit (.string s)) (fun z => by rw [hD, hF])

/-- 'm[k]'. -/
theorem MP.look {w : World} {b : Nat} {F : Int → Option (List UInt8)} (h : MP w b F) {k : Int} (hw : (iK k).wf = true) :
    (Instr.lookup 85 (.map (some b)) (.int .i64 k) false).run Tryz.prog w = .ok (sec ((F k).getD zrL)) w := by
  obtain ⟨D, hD, hF, hk⟩ := h
  obtain ⟨v, ps, hrun, hv⟩ := hD.lookup law3 Tryz.underlying85 (hz66 w) (secR_sec zrL_length) (keyOf3 hw)
  obtain ⟨l, rfl, hl, hd⟩ := secR_inv hv
  rw [hrun]
  rw [hF] at hd
  cases hq : F k with
  | none => rw [hq] at hd; simp at hd; rw [← hd]; rfl
  | some s => rw [hq] at hd; simp at hd; rw [← hd]; rfl
/-- 'm[k]', with whether it is there. -/
theorem MP.look_ok {w : World} {b : Nat} {F : Int → Option (List UInt8)} (h : MP w b F) {k : Int} (hw : (iK k).wf = true) :
    (Instr.lookup 85 (.map (some b)) (.int .i64 k) true).run Tryz.prog w = .ok (.tuple #[sec ((F k).getD zrL), .bool (F k).isSome]) w := by
  obtain ⟨D, hD, hF, hk⟩ := h
  obtain ⟨v, ps, hrun, hv⟩ := hD.look_ok law3 Tryz.underlying85 (hz66 w) (secR_sec zrL_length) (keyOf3 hw)
  obtain ⟨l, rfl, hl, hd⟩ := secR_inv hv
  rw [hrun, mp_has hF]
  rw [hF] at hd
  cases hq : F k with
  | none => rw [hq] at hd; simp at hd; rw [← hd]; rfl
  | some s => rw [hq] at hd; simp at hd; rw [← hd]; rfl

/-- The keys. -/
theorem MP.keys_mem {w : World} {b n : Nat} {D : DataW Unit} (hD : w.ownsMap Tryz.prog 3 secR b n D) : (intKeys D).Nodup ∧ ∀ k, k ∈ intKeys D ↔ has D (iK k) = true := by
  obtain ⟨es, rfl, hpw, _⟩ := hD.entries law3
  obtain ⟨es', hD', hko⟩ := hD.keysOf
  obtain rfl : es = es' := by simpa using hD'
  have hk : ∀ p ∈ es, ∃ x, p.1 = .int .i64 x := fun p hp => by
    obtain ⟨v, hv⟩ := hko p hp
    obtain ⟨x, _, hx, _⟩ := Maps.keyOf_i64 Tryz.underlying3 hv
    exact ⟨x, hx⟩
  refine ⟨?_, fun x => ?_⟩
  · show (es.map fun p => intOf p.1).Nodup
    refine List.pairwise_map.2 (hpw.imp_of_mem fun {p q} hp' hq' hne e => hne ?_)
    obtain ⟨a, ha⟩ := hk p hp'
    obtain ⟨b, hb⟩ := hk q hq'
    rw [ha, hb] at e ⊢
    exact congrArg _ e
  · rw [has_eq, List.any_eq_true]
    show x ∈ (es.map fun p => intOf p.1) ↔ _
    rw [List.mem_map]
    constructor
    · rintro ⟨p, hp', rfl⟩
      obtain ⟨a, ha⟩ := hk p hp'
      exact ⟨p, hp', by rw [ha]; simp [Lit.sameKey, intOf]⟩
    · rintro ⟨p, hp', hs⟩
      obtain ⟨a, ha⟩ := hk p hp'
      rw [ha] at hs
      exact ⟨p, hp', by rw [ha]; simpa [Lit.sameKey, intOf] using hs⟩

theorem length_range {l : List Int} (hn : l.Nodup) (hb : ∀ k ∈ l, 0 ≤ k ∧ k < 1024) : l.length ≤ 1024 := by
  have h1 : (l.map Int.toNat).Nodup := by
    refine List.pairwise_map.2 (hn.imp_of_mem fun {a b} ha hb' hne e => hne ?_)
    have := hb a ha
    have := hb b hb'
    omega
  have h2 : ∀ x ∈ l.map Int.toNat, x < 1024 := fun x hx => by
    obtain ⟨k, hk, rfl⟩ := List.mem_map.1 hx
    have := hb k hk
    omega
  have h3 : ((List.range 1024).filter (fun x => decide (x ∈ l.map Int.toNat))).Perm (l.map Int.toNat) := by
    refine (List.perm_ext_iff_of_nodup (List.nodup_range.filter _) h1).2 fun x => ?_
    rw [List.mem_filter, List.mem_range, decide_eq_true_eq]
    exact ⟨fun h => h.2, fun h => ⟨h2 x h, h⟩⟩
  have h4 := h3.length_eq
  have h5 := List.length_filter_le (fun x => decide (x ∈ l.map Int.toNat)) (List.range 1024)
  rw [List.length_range] at h5
  rw [List.length_map] at h4
  omega

theorem size_keys (D : DataW Unit) : Maps.size D = (intKeys D).length := by
  cases D <;> simp [Maps.size, intKeys]

theorem MP.tight {w : World} {b n : Nat} {D : DataW Unit} (hD : w.ownsMap Tryz.prog 3 secR b n D) (hk : ∀ k, has D (iK k) = true → 0 ≤ k ∧ k < 1024) : w.ownsMap Tryz.prog 3 secR b 1024 D := by
  obtain ⟨h1, h2⟩ := MP.keys_mem hD
  have h3 := length_range h1 (fun k hk' => hk k ((h2 k).1 hk'))
  rw [← size_keys] at h3
  obtain ⟨es, clock, hb, Ft, hs, hDD⟩ := hD
  refine ⟨es, clock, hb, Ft, ?_, hDD⟩
  have : Maps.size D = es.size := by rw [hDD]; simp [Maps.size, length_sorted]
  omega

def upd (F : Int → Option (List UInt8)) (k : Int) (x : Option (List UInt8)) : Int → Option (List UInt8) := fun j => if j = k then x else F j

/-- 'm[k] = v'. -/
theorem MP.store {w : World} {b : Nat} {F : Int → Option (List UInt8)} (h : MP w b F) {k : Int} (h0 : 0 ≤ k) (h1 : k < 1024) {s : List UInt8} (hs : s.length = 128) :
    ∃ w', (Instr.mapUpdate 85 (.map (some b)) (.int .i64 k) (sec s)).run Tryz.prog w = .ok () w' ∧ MP w' b (upd F k (some s)) ∧ w.mapTurned w' b := by
  obtain ⟨D, hD, hF, hk⟩ := h
  have hw := wfK h0 h1
  obtain ⟨w', hrun, hown, ht⟩ := hD.store law3 Tryz.underlying85 (by unfold maxLen; omega) (keyOf3 hw) (secR_sec hs)
  have hF' : ∀ j z, (D.put (iK k) (.lit (.string s))).atKey (iK j) z = match upd F k (some s) j with | some s => .lit (.string s) | none => z := by
    intro j z
    unfold upd
    by_cases hj : j = k
    · subst hj
      rw [atKey_put_same hD.isMap (by simp [iK, WideAt.IsKeyLit])]
      simp
    · rw [atKey_put_other (by simpa [iK] using hj), hF, if_neg hj]
  have hk' : ∀ j t, upd F k (some s) j = some t → 0 ≤ j ∧ j < 1024 ∧ t.length = 128 := by
    intro j t hj
    unfold upd at hj
    split at hj
    · rename_i e
      cases hj
      exact ⟨by omega, by omega, hs⟩
    · exact hk j t hj
  refine ⟨w', hrun, ⟨_, MP.tight hown (fun j hj => ?_), hF', hk'⟩, ht⟩
  rw [mp_has hF', Option.isSome_iff_exists] at hj
  obtain ⟨t, ht'⟩ := hj
  exact ⟨(hk' j t ht').1, (hk' j t ht').2.1⟩
/-- 'delete(m, k)'. -/
theorem MP.drop {w : World} {b : Nat} {F : Int → Option (List UInt8)} (h : MP w b F) {k : Int} (hw : (iK k).wf = true) (ty : TypeId) :
    ∃ w', (Builtin.delete_ #[85, 3] ty #[.map (some b), .int .i64 k]).run Tryz.prog w = .ok (.tuple #[]) w' ∧ MP w' b (upd F k none) ∧ w.mapTurned w' b := by
  obtain ⟨D, hD, hF, hk⟩ := h
  obtain ⟨w', hrun, hown, ht⟩ := hD.drop law3 Tryz.underlying85 (keyOf3 hw) ty
  have hF' : ∀ j z, (D.del (iK k)).atKey (iK j) z = match upd F k none j with | some s => .lit (.string s) | none => z := by
    intro j z
    unfold upd
    by_cases hj : j = k
    · subst hj
      rw [atKey_del_same]
      simp
    · rw [atKey_del_other (by simpa [iK] using hj), hF, if_neg hj]
  refine ⟨w', hrun, ⟨_, hown, hF', fun j t hj => ?_⟩, ht⟩
  unfold upd at hj
  split at hj
  · cases hj
  · exact hk j t hj
/-- 'make(map)'. -/
theorem MP.made (w : World) : MP (w.alloc (.map #[] 0)) w.heap.size (fun _ => none) :=
  ⟨.map [], (World.ownsMap_made w _ _ _).mono (by omega), fun k z => rfl, fun k s h => by cases h⟩
end Go.Proofs.YthfnncahmccgkaaGreatDoor
