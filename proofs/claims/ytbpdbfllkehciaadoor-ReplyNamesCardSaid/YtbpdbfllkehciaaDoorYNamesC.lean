/-
  ReplyNames's walk (a closed law).
-/
import Derived.Deep.QuietTactic
import Derived.BigQuiet
import Derived.Deep.RegionHeld3
import Derived.Test.YtbpdbfllkehciaaDoorYNamesP
namespace Go.Proofs.YtbpdbfllkehciaaDoor
open Go Go.RowKit Go.Shelf
set_option maxRecDepth 100000

def SBX (X W : World) : Prop := Below X.heap.size X W
theorem SBX.drew {X W : World} (h : SBX X W) : SBX X W.drew := Below.drew h
theorem class_qn (c : Int) (W : World) (m : Nat) (h0 : -9223372036854775808 ≤ c) (h1 : c ≤ 9223372036854775807) : Calls Tryd.prog 17 #[.int .i64 c] (W.drewN m) fun e w'' => e = .returned (.int .i64 (classZ c)) ∧ ∃ k, w'' = W.drewN k :=
  (class_any c (W.drewN m) h0 h1).mono fun _ _ ⟨h1, h2⟩ => ⟨h1, m, h2.symm⟩

theorem row_append2 {n : Nat} {w1 : World} {v : Value} {ls : List (List UInt8)} (h : w1.ownsRow n 9 1 v ls.length (ls.map sv)) (hn : n ≤ w1.heap.size) (hlen : ls.length ≤ 1000000)
    {ops : Array Oper} {rest : List Oper} {o : Oper} {a : Act} {Q : Exit → Act → World → Prop} (t : List UInt8) (C : Array Value) (hC : C.toList = [sv t])
    (s x : Operand) (hgd : o.guard = none) (ho : o.op = .call { callee := .builtin .append, args := #[s, x], argTypes := #[26, 26] }) (hs : a.eval s = v) (c B : Nat) (hx : a.eval x = .slice (some ⟨B, 0, none⟩) 1 c) (hB : w1.heap.size = B)
    (k : ∀ g cap w', w'.ownsRow n 9 1 (.slice (some ⟨g, 0, none⟩) (ls.length + 1) cap) (ls.length + 1) ((ls ++ [t]).map sv) → (w1.alloc (.cells C 9)).grownBy w' v.ownBlock → (v.ownBlock = some g ∨ g = w1.heap.size + 1) → g < w'.heap.size →
      wpList Tryd.prog ops Q rest (a.put o.dst (.slice (some ⟨g, 0, none⟩) (ls.length + 1) cap)) w') :
    wpList Tryd.prog ops Q (o :: rest) a (w1.alloc (.cells C 9)) := by
  subst hB
  exact row_append h hn hlen t C hC s x hgd ho hs c hx k
def allocs (w : World) (os : List Obj) : World := os.foldl World.alloc w
theorem heap_allocs : ∀ (os : List Obj) (w : World), (allocs w os).heap = w.heap ++ os.toArray
  | [], w => by simp [allocs]
  | o :: os, w => by
    have := heap_allocs os (w.alloc o)
    unfold allocs at this ⊢
    rw [List.foldl_cons, this]
    apply Array.ext'
    show ((w.heap.push o) ++ os.toArray).toList = (w.heap ++ (o :: os).toArray).toList
    rw [Array.toList_append, Array.toList_append, Array.toList_push]
    simp only [List.append_assoc, List.singleton_append]
theorem below_allocs : ∀ (os : List Obj) (w : World), Below w.heap.size w (allocs w os)
  | [], w => Below.refl _ _
  | o :: os, w => (below_alloc w o).trans ((below_allocs os (w.alloc o)).mono (by simp))

set_option maxHeartbeats 64000000 in
theorem replyNames_walk (w : World) (hw : LW w) : Calls Tryd.prog 3 #[] w fun e w' => e = .returned (.bool true) ∧ Below w.heap.size w w' := by
  have HB := Lib.hid (BL.start hw)
  clear hw
  go_enter Tryd.func3, Tryd.ntmps3
  go_wp2_with first
    | (go_at_call 9; refine (nil_reset _).mono ?_; rintro e w' ⟨rfl, rfl⟩)
    | (go_at_call 10; refine (nil_line _ _).mono ?_; rintro e w' ⟨rfl, rfl⟩)
    | (go_at_call 11; refine (nil_take _).mono ?_; rintro e w1 ⟨rfl, hb⟩; unfold repV; have B1 := Lib.hid ((HB.out).step hb); clear hb)
    | (go_at_call 12; refine (awake_any _ ((B1.out).alloc _).lw).mono ?_; rintro e w2 ⟨rfl, hb⟩; have B2 := Lib.hid (((B1.out).alloc _).step hb); clear hb)
    | (go_at_call 13; refine (nil_dead _).mono ?_; rintro e w' ⟨rfl, rfl⟩)
    | (go_at_call 14; refine (nil_copy _).mono ?_; rintro e w' ⟨rfl, rfl⟩)
  obtain ⟨g, hg⟩ : ∃ g, g = w2.heap.size := ⟨_, rfl⟩
  obtain ⟨XA, hXA⟩ : ∃ X, X = w2.alloc (Obj.cells #[.string { data := #[] }, .string { data := #[50] }, .string { data := #[50, 53] }, .string { data := #[49, 57, 57] }, .string { data := #[54, 48, 48, 32, 120] }, .string { data := #[50, 57, 57] }, .string { data := #[50, 97, 48, 32, 120] }, .string { data := #[50, 48, 97, 32, 120] }, .string { data := #[50, 53, 48, 9, 120] }, .string { data := #[50, 53, 48, 32, 1] }, .string { data := #[50, 53, 48, 45, 127] }, .string { data := #[50, 53, 48, 32, 128] }, .string { data := #[50, 53, 48, 32, 97, 13] }, .string { data := #[32, 50, 53, 48, 32, 120] }, .string { data := #[45, 50, 53, 48] }] 9) := ⟨_, rfl⟩
  have bx : Below w2.heap.size w2 XA := by rw [hXA]; exact below_alloc _ _
  have lb : XA.heap[g]? = some (.cells (bad15.map sv).toArray 9 (0, 0)) := by rw [hXA, hg]; exact heap_alloc_new _ _
  rw [← hg, ← hXA]
  have LB := Lib.hid lb
  have B3 := Lib.hid ((B2.out).step bx)
  have H0 := Lib.hid (Below.refl XA.heap.size XA)
  clear bx lb hXA hg
  go_loopw [7, 8, 9, 10, 11, 72] (fun _ _ _ _ _ i wr => ∃ k : Nat, k ≤ 15 ∧ i = .int .i64 k ∧ Below XA.heap.size XA wr) (fun _ _ _ _ _ i _ => 15 - (intOf i).toNat)
  case atStart => exact ⟨0, Nat.zero_le _, rfl, H0.out⟩
  case round =>
    obtain ⟨k, hk, rfl, hbl⟩ := hrel
    by_cases hlt : k < 15
    · obtain ⟨x, hx⟩ : ∃ x, x = bad15.getD k [] := ⟨_, rfl⟩
      have c1 : wr.cell? ⟨g, k, none⟩ = some (sv x) := by
        rw [cellAt (blk_below LB.out hbl), hx]
        have : bad15.length = 15 := rfl
        simp [List.getD_eq_getElem?_getD, List.getElem?_map, List.getElem?_eq_getElem (show k < bad15.length by omega)]
      have hno := bad15_no k hlt
      have hxl := bad15_len k hlt
      rw [← hx] at hno hxl
      have HP := Lib.hid (parse_any x wr hxl ((B3.out.step hbl).lw))
      rw [show parseV x = .tuple #[.int .i64 0, .bool false, sv [], .int .i64 4] by unfold parseV; rw [hno]; rfl] at HP
      have HL := Lib.hid hbl
      clear hx hno hxl hbl
      go_wp2_with (go_at_call 15; refine (HP.out).mono ?_; rintro e w1 ⟨rfl, hb⟩; have HX := Lib.hid hb; clear hb)
      go_roundw
      case rel => exact ⟨k + 1, by omega, by go_num, (HL.out).trans ((HX.out).mono HL.out.size)⟩
      case measure => simp [intOf]; omega
    · obtain rfl : k = 15 := by omega
      rw [show ((15 : Nat) : Int) = 15 from rfl]
      have B4 := Lib.hid ((B3.out).step hbl)
      clear hbl hk hlt
      go_wp2_with fail
      obtain ⟨g2, hg2⟩ : ∃ g, g = wr.heap.size := ⟨_, rfl⟩
      obtain ⟨XB, hXB⟩ : ∃ X, X = wr.alloc (Obj.cells #[.string { data := #[50, 48, 48] }, .int .i64 200, .bool false, .string { data := #[] }, .string { data := #[53, 53, 57, 32] }, .int .i64 559, .bool false, .string { data := #[] }, .string { data := #[51, 53, 52, 45] }, .int .i64 354, .bool true, .string { data := #[] }, .string { data := #[50, 53, 48, 32, 32, 97] }, .int .i64 250, .bool false, .string { data := #[32, 97] }, .string { data := #[52, 50, 49, 32, 126, 9, 33] }, .int .i64 421, .bool false, .string { data := #[126, 9, 33] }, .string { data := #[50, 53, 48, 45, 45] }, .int .i64 250, .bool true, .string { data := #[45] }] 35) := ⟨_, rfl⟩
      have bx : Below wr.heap.size wr XB := by rw [hXB]; exact below_alloc _ _
      have lb : XB.heap[g2]? = some (Obj.cells #[.string { data := #[50, 48, 48] }, .int .i64 200, .bool false, .string { data := #[] }, .string { data := #[53, 53, 57, 32] }, .int .i64 559, .bool false, .string { data := #[] }, .string { data := #[51, 53, 52, 45] }, .int .i64 354, .bool true, .string { data := #[] }, .string { data := #[50, 53, 48, 32, 32, 97] }, .int .i64 250, .bool false, .string { data := #[32, 97] }, .string { data := #[52, 50, 49, 32, 126, 9, 33] }, .int .i64 421, .bool false, .string { data := #[126, 9, 33] }, .string { data := #[50, 53, 48, 45, 45] }, .int .i64 250, .bool true, .string { data := #[45] }] 35) := by rw [hXB, hg2]; exact heap_alloc_new _ _
      rw [← hg2, ← hXB]
      have LB2 := Lib.hid lb
      have B5 := Lib.hid ((B4.out).step bx)
      have H1 := Lib.hid (Below.refl XB.heap.size XB)
      clear bx lb hXB hg2
      go_loopw [13, 14, 15, 16, 17, 105] (fun _ _ _ _ _ i wr => ∃ k : Nat, k ≤ 6 ∧ i = .int .i64 k ∧ Below XB.heap.size XB wr) (fun _ _ _ _ _ i _ => 6 - (intOf i).toNat)
      case atStart => exact ⟨0, Nat.zero_le _, rfl, H1.out⟩
      case round =>
        obtain ⟨k, hk, rfl, hbl⟩ := hrel
        by_cases hlt : k < 6
        · obtain ⟨x, hx⟩ : ∃ x, x = (good6.getD k ([], 0, false, [])).1 := ⟨_, rfl⟩
          obtain ⟨q, hq⟩ : ∃ x, x = (good6.getD k ([], 0, false, [])).2.1 := ⟨_, rfl⟩
          obtain ⟨m, hm⟩ : ∃ x, x = (good6.getD k ([], 0, false, [])).2.2.1 := ⟨_, rfl⟩
          obtain ⟨t, ht⟩ : ∃ x, x = (good6.getD k ([], 0, false, [])).2.2.2 := ⟨_, rfl⟩
          have hbk := blk_below LB2.out hbl
          have c1 : wr.cell? ⟨g2, k * 4, none⟩ = some (sv x) ∧ wr.cell? ⟨g2, k * 4 + 1, none⟩ = some (.int .i64 (q : Int)) ∧ wr.cell? ⟨g2, k * 4 + 2, none⟩ = some (.bool m) ∧ wr.cell? ⟨g2, k * 4 + 3, none⟩ = some (sv t) := by
            rw [cellAt hbk, cellAt hbk, cellAt hbk, cellAt hbk, hx, hq, hm, ht]
            rcases (show k = 0 ∨ k = 1 ∨ k = 2 ∨ k = 3 ∨ k = 4 ∨ k = 5 by omega) with rfl | rfl | rfl | rfl | rfl | rfl <;> exact ⟨rfl, rfl, rfl, rfl⟩
          obtain ⟨c1, c2, c3, c4⟩ := c1
          have hp := good6_is k hlt
          have hxl := good6_len k hlt
          rw [← hx, ← hq, ← hm, ← ht] at hp
          rw [← hx] at hxl
          have HP := Lib.hid (show Calls Tryd.prog 15 #[sv x] (wr.alloc (Obj.cells #[sv x, .int .i64 (q : Int), .bool m, sv t] 35)) fun e w1 => e = .returned (.tuple #[.int .i64 (q : Int), .bool m, sv t, .int .i64 0]) ∧ Below wr.heap.size wr w1 ∧ w1.cell? ⟨wr.heap.size, 1, none⟩ = some (.int .i64 (q : Int)) ∧ w1.cell? ⟨wr.heap.size, 2, none⟩ = some (.bool m) ∧ w1.cell? ⟨wr.heap.size, 3, none⟩ = some (sv t) from by
            refine (parse_any x _ hxl (((B5.out.step hbl).alloc _).lw)).mono fun e w1 ⟨h1, h2⟩ => ?_
            have hz := blk_below (heap_alloc_new wr (Obj.cells #[sv x, .int .i64 (q : Int), .bool m, sv t] 35)) h2
            rw [hp] at h1
            exact ⟨h1, (below_alloc _ _).trans (h2.mono (by simp)), by rw [cellAt hz]; rfl, by rw [cellAt hz]; rfl, by rw [cellAt hz]; rfl⟩)
          have HL := Lib.hid hbl
          clear hx hq hm ht hbk hp hxl hbl
          go_wp2_with (go_at_call 15; refine (HP.out).mono ?_; rintro e w1 ⟨rfl, hb, z1, z2, z3⟩; have HX := Lib.hid hb; clear hb)
          go_roundw
          case rel => exact ⟨k + 1, by omega, by go_num, (HL.out).trans ((HX.out).mono HL.out.size)⟩
          case measure => simp [intOf]; omega
        · obtain rfl : k = 6 := by omega
          rw [show ((6 : Nat) : Int) = 6 from rfl]
          have B6 := Lib.hid ((B5.out).step hbl)
          clear hbl hk hlt
          go_wp2_with fail
          obtain ⟨gb, hgb⟩ : ∃ g, g = wr.heap.size := ⟨_, rfl⟩
          obtain ⟨os, hos⟩ : ∃ os : List Obj, os = [Obj.cells #[.string { data := #[50, 53, 48, 32, 50, 46, 48, 46, 48] }, .string { data := #[50, 46, 48, 46, 48] }] 9, Obj.cells #[.string { data := #[50, 53, 48, 32, 50, 46, 49, 48, 46, 57, 57, 57, 32, 120] }, .string { data := #[50, 46, 49, 48, 46, 57, 57, 57] }] 9, Obj.cells #[.string { data := #[50, 53, 48, 32, 50, 46, 48, 49, 46, 48, 32, 120] }, .string { data := #[] }] 9, Obj.cells #[.string { data := #[50, 53, 48, 32, 50, 46, 48, 46, 49, 48, 48, 48, 32, 120] }, .string { data := #[] }] 9, Obj.cells #[.string { data := #[50, 53, 48, 32, 50, 46, 48] }, .string { data := #[] }] 9, Obj.cells #[.string { data := #[50, 53, 48, 32, 50, 46, 48, 46] }, .string { data := #[] }] 9, Obj.cells #[.string { data := #[50, 53, 48, 32, 50, 46, 46, 48] }, .string { data := #[] }] 9, Obj.cells #[.string { data := #[50, 53, 48, 32, 50, 46, 48, 46, 48, 120] }, .string { data := #[] }] 9, Obj.cells #[.string { data := #[50, 53, 48, 32, 50, 46, 48, 46, 48, 9, 120] }, .string { data := #[] }] 9, Obj.cells #[.string { data := #[51, 53, 52, 32, 51, 46, 48, 46, 48, 32, 120] }, .string { data := #[] }] 9, Obj.cells #[.string { data := #[53, 53, 48, 32, 53, 46, 55, 46, 51, 48, 32, 120] }, .string { data := #[53, 46, 55, 46, 51, 48] }] 9, Obj.cells #[.string { data := #[50, 53, 48, 32, 32, 50, 46, 48, 46, 48] }, .string { data := #[] }] 9, Obj.cells #[.string { data := #[50, 53, 48, 32, 50, 50, 46, 48, 46, 48, 32, 120] }, .string { data := #[] }] 9, Obj.cells #[.string { data := #[52, 53, 48] }, .string { data := #[] }] 9, Obj.cells #[.slice (some ⟨gb, 0, none⟩) 2 2, .slice (some ⟨gb + 1, 0, none⟩) 2 2, .slice (some ⟨gb + 2, 0, none⟩) 2 2, .slice (some ⟨gb + 3, 0, none⟩) 2 2, .slice (some ⟨gb + 4, 0, none⟩) 2 2, .slice (some ⟨gb + 5, 0, none⟩) 2 2, .slice (some ⟨gb + 6, 0, none⟩) 2 2, .slice (some ⟨gb + 7, 0, none⟩) 2 2, .slice (some ⟨gb + 8, 0, none⟩) 2 2, .slice (some ⟨gb + 9, 0, none⟩) 2 2, .slice (some ⟨gb + 10, 0, none⟩) 2 2, .slice (some ⟨gb + 11, 0, none⟩) 2 2, .slice (some ⟨gb + 12, 0, none⟩) 2 2, .slice (some ⟨gb + 13, 0, none⟩) 2 2] 26] := ⟨_, rfl⟩
          obtain ⟨XC, hXC⟩ : ∃ X, X = (((((((((((((((wr.alloc (Obj.cells #[.string { data := #[50, 53, 48, 32, 50, 46, 48, 46, 48] }, .string { data := #[50, 46, 48, 46, 48] }] 9)).alloc (Obj.cells #[.string { data := #[50, 53, 48, 32, 50, 46, 49, 48, 46, 57, 57, 57, 32, 120] }, .string { data := #[50, 46, 49, 48, 46, 57, 57, 57] }] 9)).alloc (Obj.cells #[.string { data := #[50, 53, 48, 32, 50, 46, 48, 49, 46, 48, 32, 120] }, .string { data := #[] }] 9)).alloc (Obj.cells #[.string { data := #[50, 53, 48, 32, 50, 46, 48, 46, 49, 48, 48, 48, 32, 120] }, .string { data := #[] }] 9)).alloc (Obj.cells #[.string { data := #[50, 53, 48, 32, 50, 46, 48] }, .string { data := #[] }] 9)).alloc (Obj.cells #[.string { data := #[50, 53, 48, 32, 50, 46, 48, 46] }, .string { data := #[] }] 9)).alloc (Obj.cells #[.string { data := #[50, 53, 48, 32, 50, 46, 46, 48] }, .string { data := #[] }] 9)).alloc (Obj.cells #[.string { data := #[50, 53, 48, 32, 50, 46, 48, 46, 48, 120] }, .string { data := #[] }] 9)).alloc (Obj.cells #[.string { data := #[50, 53, 48, 32, 50, 46, 48, 46, 48, 9, 120] }, .string { data := #[] }] 9)).alloc (Obj.cells #[.string { data := #[51, 53, 52, 32, 51, 46, 48, 46, 48, 32, 120] }, .string { data := #[] }] 9)).alloc (Obj.cells #[.string { data := #[53, 53, 48, 32, 53, 46, 55, 46, 51, 48, 32, 120] }, .string { data := #[53, 46, 55, 46, 51, 48] }] 9)).alloc (Obj.cells #[.string { data := #[50, 53, 48, 32, 32, 50, 46, 48, 46, 48] }, .string { data := #[] }] 9)).alloc (Obj.cells #[.string { data := #[50, 53, 48, 32, 50, 50, 46, 48, 46, 48, 32, 120] }, .string { data := #[] }] 9)).alloc (Obj.cells #[.string { data := #[52, 53, 48] }, .string { data := #[] }] 9)).alloc (Obj.cells #[.slice (some ⟨gb, 0, none⟩) 2 2, .slice (some ⟨gb + 1, 0, none⟩) 2 2, .slice (some ⟨gb + 2, 0, none⟩) 2 2, .slice (some ⟨gb + 3, 0, none⟩) 2 2, .slice (some ⟨gb + 4, 0, none⟩) 2 2, .slice (some ⟨gb + 5, 0, none⟩) 2 2, .slice (some ⟨gb + 6, 0, none⟩) 2 2, .slice (some ⟨gb + 7, 0, none⟩) 2 2, .slice (some ⟨gb + 8, 0, none⟩) 2 2, .slice (some ⟨gb + 9, 0, none⟩) 2 2, .slice (some ⟨gb + 10, 0, none⟩) 2 2, .slice (some ⟨gb + 11, 0, none⟩) 2 2, .slice (some ⟨gb + 12, 0, none⟩) 2 2, .slice (some ⟨gb + 13, 0, none⟩) 2 2] 26)) := ⟨_, rfl⟩
          have hXO : XC = allocs wr os := by rw [hXC, hos]; rfl
          have hheap : XC.heap = wr.heap ++ os.toArray := by rw [hXO]; exact heap_allocs _ _
          have bx : Below wr.heap.size wr XC := by rw [hXO]; exact below_allocs _ _
          have hrow : ∀ k, k < 14 → XC.heap[gb + k]? = some (Obj.cells #[sv (stat14.getD k ([], [])).1, sv (stat14.getD k ([], [])).2] 9) ∧ XC.cell? ⟨gb + 14, k, none⟩ = some (.slice (some ⟨gb + k, 0, none⟩) 2 2) := by
            intro k hk
            have h14 : XC.heap[gb + 14]? = some (Obj.cells #[.slice (some ⟨gb, 0, none⟩) 2 2, .slice (some ⟨gb + 1, 0, none⟩) 2 2, .slice (some ⟨gb + 2, 0, none⟩) 2 2, .slice (some ⟨gb + 3, 0, none⟩) 2 2, .slice (some ⟨gb + 4, 0, none⟩) 2 2, .slice (some ⟨gb + 5, 0, none⟩) 2 2, .slice (some ⟨gb + 6, 0, none⟩) 2 2, .slice (some ⟨gb + 7, 0, none⟩) 2 2, .slice (some ⟨gb + 8, 0, none⟩) 2 2, .slice (some ⟨gb + 9, 0, none⟩) 2 2, .slice (some ⟨gb + 10, 0, none⟩) 2 2, .slice (some ⟨gb + 11, 0, none⟩) 2 2, .slice (some ⟨gb + 12, 0, none⟩) 2 2, .slice (some ⟨gb + 13, 0, none⟩) 2 2] 26) := by rw [hgb, alloc_at hheap 14 (by rw [hos]; simp), hos, hgb]; rfl
            rw [cellAt h14, hgb, alloc_at hheap k (by rw [hos]; simp; omega), hos]
            rcases (show k = 0 ∨ k = 1 ∨ k = 2 ∨ k = 3 ∨ k = 4 ∨ k = 5 ∨ k = 6 ∨ k = 7 ∨ k = 8 ∨ k = 9 ∨ k = 10 ∨ k = 11 ∨ k = 12 ∨ k = 13 by omega) with rfl | rfl | rfl | rfl | rfl | rfl | rfl | rfl | rfl | rfl | rfl | rfl | rfl | rfl <;> exact ⟨rfl, rfl⟩
          rw [← hgb, ← hXC]
          have HROW := Lib.hid hrow
          have B7 := Lib.hid ((B6.out).step bx)
          have H2 := Lib.hid (Below.refl XC.heap.size XC)
          clear hos hXC hXO hheap bx hrow hgb
          go_loopw [19, 154] (fun _ i wr => ∃ k : Nat, k ≤ 14 ∧ i = .int .i64 k ∧ Below XC.heap.size XC wr) (fun _ i _ => 14 - (intOf i).toNat)
          case atStart => exact ⟨0, Nat.zero_le _, rfl, H2.out⟩
          case round =>
            obtain ⟨k, hk, rfl, hbl⟩ := hrel
            by_cases hlt : k < 14
            · obtain ⟨x, hx⟩ : ∃ x, x = (stat14.getD k ([], [])).1 := ⟨_, rfl⟩
              obtain ⟨y, hy⟩ : ∃ x, x = (stat14.getD k ([], [])).2 := ⟨_, rfl⟩
              obtain ⟨h1, h2⟩ := HROW.out k hlt
              rw [← hx, ← hy] at h1
              obtain ⟨gk, hgk⟩ : ∃ g, g = gb + k := ⟨_, rfl⟩
              rw [← hgk] at h1 h2
              have c0 : wr.cell? ⟨gb + 14, k, none⟩ = some (.slice (some ⟨gk, 0, none⟩) 2 2) := by
                have hl14 : gb + 14 < XC.heap.size := block_lt_of_cell h2
                exact (hbl.cell (p := ⟨gb + 14, k, none⟩) hl14).trans h2
              have hst := stat14_is k hlt
              have hxl := stat14_len k hlt
              rw [← hx, ← hy] at hst
              rw [← hx] at hxl
              have hbw := blk_below h1 hbl
              have HC := Lib.hid (show ∀ W, SBX wr W → W.cell? ⟨gk, 0, none⟩ = some (sv x) ∧ W.cell? ⟨gk, 1, none⟩ = some (sv y) from fun W hs => have hz := blk_below hbw hs; ⟨by rw [cellAt hz]; rfl, by rw [cellAt hz]; rfl⟩)
              have HLW := Lib.hid (B7.out.step hbl).lw
              have HS := Lib.hid (show ∀ W, SBX wr W → Calls Tryd.prog 16 #[sv x] W fun e w' => e = .returned (sv y) ∧ SBX wr w' from fun W hs => by
                have := statusL_any x W ((HLW.out).below hs) hxl
                rw [hst] at this
                exact this.mono fun e w' ⟨h1, h2⟩ => ⟨h1, Below.trans hs (h2.mono hs.size)⟩)
              have hs0 : SBX wr wr := Below.refl _ _
              have hc0 := HC.out _ hs0
              have HL := Lib.hid hbl
              clear hx hy h1 h2 hgk hst hxl hbw hbl
              go_wp2_with fail
              go_region_held3 (fun W => SBX wr W ∧ W.cell? ⟨gk, 0, none⟩ = some (sv x) ∧ W.cell? ⟨gk, 1, none⟩ = some (sv y))
                (first | exact ⟨by assumption, HC.out _ (by assumption)⟩ | exact ⟨SBX.drew (by assumption), HC.out _ (SBX.drew (by assumption))⟩)
                (first
                  | (go_at_call 16; with_reducible refine (HS.out _ (by first | assumption | exact SBX.drew (by assumption))).mono ?_; rintro e1 w8 ⟨rfl, hR⟩))
              all_goals (try go_wp2_with fail)
              all_goals go_roundw
              case rel => exact ⟨k + 1, by omega, by go_num, (HL.out).trans (Below.mono (by show SBX wr _; assumption) HL.out.size)⟩
              case measure => simp [intOf]; omega
            · obtain rfl : k = 14 := by omega
              rw [show ((14 : Nat) : Int) = 14 from rfl]
              have B8 := Lib.hid ((B7.out).step hbl)
              clear hbl hk hlt
              go_wp2_with fail
              obtain ⟨gc, hgc⟩ : ∃ g, g = wr.heap.size := ⟨_, rfl⟩
              obtain ⟨os, hos⟩ : ∃ os : List Obj, os = [Obj.cells #[.int .i64 199, .int .i64 0] 3, Obj.cells #[.int .i64 200, .int .i64 2] 3, Obj.cells #[.int .i64 299, .int .i64 2] 3, Obj.cells #[.int .i64 599, .int .i64 5] 3, Obj.cells #[.int .i64 600, .int .i64 0] 3, Obj.cells #[.int .i64 (-250), .int .i64 0] 3, Obj.cells #[.int .i64 0, .int .i64 0] 3, Obj.cells #[.int .i64 354, .int .i64 3] 3, Obj.cells #[.slice (some ⟨gc, 0, none⟩) 2 2, .slice (some ⟨gc + 1, 0, none⟩) 2 2, .slice (some ⟨gc + 2, 0, none⟩) 2 2, .slice (some ⟨gc + 3, 0, none⟩) 2 2, .slice (some ⟨gc + 4, 0, none⟩) 2 2, .slice (some ⟨gc + 5, 0, none⟩) 2 2, .slice (some ⟨gc + 6, 0, none⟩) 2 2, .slice (some ⟨gc + 7, 0, none⟩) 2 2] 39] := ⟨_, rfl⟩
              obtain ⟨XD, hXD⟩ : ∃ X, X = (((((((((wr.alloc (Obj.cells #[.int .i64 199, .int .i64 0] 3)).alloc (Obj.cells #[.int .i64 200, .int .i64 2] 3)).alloc (Obj.cells #[.int .i64 299, .int .i64 2] 3)).alloc (Obj.cells #[.int .i64 599, .int .i64 5] 3)).alloc (Obj.cells #[.int .i64 600, .int .i64 0] 3)).alloc (Obj.cells #[.int .i64 (-250), .int .i64 0] 3)).alloc (Obj.cells #[.int .i64 0, .int .i64 0] 3)).alloc (Obj.cells #[.int .i64 354, .int .i64 3] 3)).alloc (Obj.cells #[.slice (some ⟨gc, 0, none⟩) 2 2, .slice (some ⟨gc + 1, 0, none⟩) 2 2, .slice (some ⟨gc + 2, 0, none⟩) 2 2, .slice (some ⟨gc + 3, 0, none⟩) 2 2, .slice (some ⟨gc + 4, 0, none⟩) 2 2, .slice (some ⟨gc + 5, 0, none⟩) 2 2, .slice (some ⟨gc + 6, 0, none⟩) 2 2, .slice (some ⟨gc + 7, 0, none⟩) 2 2] 39)) := ⟨_, rfl⟩
              have hXO : XD = allocs wr os := by rw [hXD, hos]; rfl
              have hheap : XD.heap = wr.heap ++ os.toArray := by rw [hXO]; exact heap_allocs _ _
              have bx : Below wr.heap.size wr XD := by rw [hXO]; exact below_allocs _ _
              have hrow : ∀ k, k < 8 → XD.heap[gc + k]? = some (Obj.cells #[.int .i64 (cls8.getD k (0, 0)).1, .int .i64 (cls8.getD k (0, 0)).2] 3) ∧ XD.cell? ⟨gc + 8, k, none⟩ = some (.slice (some ⟨gc + k, 0, none⟩) 2 2) := by
                intro k hk
                have h8 : XD.heap[gc + 8]? = some (Obj.cells #[.slice (some ⟨gc, 0, none⟩) 2 2, .slice (some ⟨gc + 1, 0, none⟩) 2 2, .slice (some ⟨gc + 2, 0, none⟩) 2 2, .slice (some ⟨gc + 3, 0, none⟩) 2 2, .slice (some ⟨gc + 4, 0, none⟩) 2 2, .slice (some ⟨gc + 5, 0, none⟩) 2 2, .slice (some ⟨gc + 6, 0, none⟩) 2 2, .slice (some ⟨gc + 7, 0, none⟩) 2 2] 39) := by rw [hgc, alloc_at hheap 8 (by rw [hos]; simp), hos, hgc]; rfl
                rw [cellAt h8, hgc, alloc_at hheap k (by rw [hos]; simp; omega), hos]
                rcases (show k = 0 ∨ k = 1 ∨ k = 2 ∨ k = 3 ∨ k = 4 ∨ k = 5 ∨ k = 6 ∨ k = 7 by omega) with rfl | rfl | rfl | rfl | rfl | rfl | rfl | rfl <;> exact ⟨rfl, rfl⟩
              rw [← hgc, ← hXD]
              have HROW := Lib.hid hrow
              have B9 := Lib.hid ((B8.out).step bx)
              have H3 := Lib.hid (Below.refl XD.heap.size XD)
              clear hos hXD hXO hheap bx hrow hgc
              go_loopw [21, 177] (fun _ i wr => ∃ k : Nat, k ≤ 8 ∧ i = .int .i64 k ∧ Below XD.heap.size XD wr) (fun _ i _ => 8 - (intOf i).toNat)
              case atStart => exact ⟨0, Nat.zero_le _, rfl, H3.out⟩
              case round =>
                obtain ⟨k, hk, rfl, hbl⟩ := hrel
                by_cases hlt : k < 8
                · obtain ⟨x, hx⟩ : ∃ x, x = (cls8.getD k (0, 0)).1 := ⟨_, rfl⟩
                  obtain ⟨y, hy⟩ : ∃ x, x = (cls8.getD k (0, 0)).2 := ⟨_, rfl⟩
                  obtain ⟨h1, h2⟩ := HROW.out k hlt
                  rw [← hx, ← hy] at h1
                  obtain ⟨gk, hgk⟩ : ∃ g, g = gc + k := ⟨_, rfl⟩
                  rw [← hgk] at h1 h2
                  have c0 : wr.cell? ⟨gc + 8, k, none⟩ = some (.slice (some ⟨gk, 0, none⟩) 2 2) := by
                    have hl14 : gc + 8 < XD.heap.size := block_lt_of_cell h2
                    exact (hbl.cell (p := ⟨gc + 8, k, none⟩) hl14).trans h2
                  have hst := cls8_is k hlt
                  have hxl := cls8_in k hlt
                  rw [← hx, ← hy] at hst
                  rw [← hx] at hxl
                  have hbw := blk_below h1 hbl
                  have c1 : wr.cell? ⟨gk, 0, none⟩ = some (.int .i64 x) := by rw [cellAt hbw]; rfl
                  have c2 : wr.cell? ⟨gk, 1, none⟩ = some (.int .i64 y) := by rw [cellAt hbw]; rfl
                  have HS := Lib.hid (show ∀ m, Calls Tryd.prog 17 #[.int .i64 x] (wr.drewN m) fun e w'' => e = .returned (.int .i64 y) ∧ ∃ k, w'' = wr.drewN k from fun m => by
                    have := class_qn x wr m hxl.1 hxl.2
                    rwa [hst] at this)
                  have HL := Lib.hid hbl
                  clear hx hy h1 h2 hgk hst hxl hbw hbl
                  go_wp2_with fail
                  go_big_quiet (first
                    | (go_at_call 17; with_reducible exact HS.out _))
                  go_wp2_with fail
                  go_roundw
                  case rel => exact ⟨k + 1, by omega, by go_num, below_drewN HL.out _⟩
                  case measure => simp [intOf]; omega
                · obtain rfl : k = 8 := by omega
                  rw [show ((8 : Nat) : Int) = 8 from rfl]
                  have B10 := Lib.hid ((B9.out).step hbl)
                  clear hbl hk hlt
                  go_wp2_with fail
                  refine (new_of B10.out).mono ?_
                  rintro e w3 ⟨b, rfl, -, r, hb, -⟩
                  have H4 := Lib.hid (show ∃ F, Rd w.heap.size w3 b F (lineS 0 0) ∧ BL w w3 from ⟨_, r, hb⟩)
                  clear r hb
                  go_wp2_with fail
                  go_loopw [23, 24, 25, 26] (fun i _ _ _ wr => ∃ k : Nat, k ≤ 32 ∧ i = .int .i64 k ∧ ∃ F, Rd w.heap.size wr b F (if k = 32 then wholeS else lineS 0 k) ∧ BL w wr) (fun i _ _ _ _ => 32 - (intOf i).toNat)
                  case atStart => exact ⟨0, Nat.zero_le _, rfl, H4.out⟩
                  case round =>
                    obtain ⟨k, hk, rfl, F, r, hb⟩ := hrel
                    by_cases hlt : k < 32
                    · rw [if_neg (by omega)] at r
                      by_cases h31 : k = 31
                      · subst h31
                        rw [show ((31 : Nat) : Int) = 31 from rfl]
                        have R := Lib.hid r; have BB := Lib.hid hb
                        clear r hb hk hlt
                        go_wp2_with fail
                        refine (line_of (s := [50, 53, 48, 32, 120]) R.out BB.out (by decide) last_step31.1 last_step31.2.1 last_step31.2.2).mono ?_
                        rintro e w4 ⟨F2, rfl, r, hb, -, -⟩
                        have HN := Lib.hid (show ∃ F, Rd w.heap.size w4 b F (if 32 = 32 then wholeS else lineS 0 32) ∧ BL w w4 from by rw [if_pos rfl]; exact ⟨_, r, hb⟩)
                        clear r hb
                        go_wp2_with fail
                        go_roundw
                        case rel => exact ⟨32, by omega, rfl, HN.out⟩
                        case measure => simp [intOf]
                      · have he : ((k : Int) == 31) = false := by rw [beq_eq_false_iff_ne]; omega
                        have R := Lib.hid r; have BB := Lib.hid hb; have HK := Lib.hid (show k < 31 by omega)
                        clear r hb h31
                        go_wp2_with fail
                        refine (line_of (s := [50, 53, 48, 45, 120]) R.out BB.out (by decide) (more_step 0 k hlt).1 (more_step 0 k hlt).2.1 (more_step 0 k hlt).2.2).mono ?_
                        rintro e w4 ⟨F2, rfl, r, hb, -, -⟩
                        have HN := Lib.hid (show ∃ F, Rd w.heap.size w4 b F (if k + 1 = 32 then wholeS else lineS 0 (k + 1)) ∧ BL w w4 from by rw [if_neg (by have := HK.out; omega)]; exact ⟨_, r, hb⟩)
                        clear r hb
                        go_wp2_with fail
                        go_roundw
                        case rel => exact ⟨k + 1, by omega, by go_num, HN.out⟩
                        case measure => simp [intOf]; omega
                    · obtain rfl : k = 32 := by omega
                      rw [show ((32 : Nat) : Int) = 32 from rfl]
                      rw [if_pos rfl] at r
                      have R := Lib.hid r; have BB := Lib.hid hb
                      clear r hb hk hlt
                      obtain ⟨xs, hxs⟩ : ∃ xs : List (List UInt8), xs = List.replicate 32 [120] := ⟨_, rfl⟩
                      have XL := Lib.hid (show xs.length = 32 by rw [hxs]; simp)
                      have XS := Lib.hid (show showN 250 xs = 32 by rw [hxs]; exact show32)
                      have XS3 := Lib.hid (show showN 250 (xs ++ [[120]]) = 0 by rw [hxs]; exact show33)
                      have XR := Lib.hid (show ∀ k, (xs.getD k []).length ≤ 100000 by rw [hxs]; exact rep_len)
                      have XW := Lib.hid (show wholeS.lls = xs by rw [hxs]; rfl)
                      clear hxs
                      go_wp2_with fail
                      refine (take_of (lc := 250) (lst := []) (lls := xs) (has := true) R.out BB.out rfl rfl XW.out (decide_eq_true (by have := XL.out; omega))).mono ?_
                      rintro e w5 ⟨u, F5, G5, rfl, r, hg, hb, hk1, hn, hn2, hd, hgs⟩
                      obtain ⟨Au, cu, rfl⟩ := hg.form
                      obtain ⟨kx, hkx⟩ : ∃ k, k = w5.heap.size := ⟨_, rfl⟩
                      obtain ⟨X5, hX5⟩ : ∃ X, X = w5.alloc (Obj.cells #[.int .i64 250, sv [], .slice Au xs.length cu] 28) := ⟨_, rfl⟩
                      have bx : Below w5.heap.size w5 X5 := by rw [hX5]; exact below_alloc _ _
                      have HNP := Lib.hid (show NP w X5 b F5 (lineS 250 0) kx 250 [] (.slice Au xs.length cu) G5 xs from
                        ⟨hb.step bx, r.below bx, by rw [hX5, hkx]; exact Bk.new _ _ _ _, hg.below bx, r.notin (by omega), fun e => by have := hg.lt _ e; omega, hd, fun k e => ⟨(R.out.up k (hgs k e)).1, (R.out.up k (hgs k e)).2.1⟩, by rw [hkx]; exact ⟨hb.size, hb.lw.pos⟩⟩)
                      have x0 := HNP.out.box.c0; have x1 := HNP.out.box.c1; have x2 := HNP.out.box.c2
                      rw [hX5] at x0 x1 x2
                      have HKX := Lib.hid hkx; have HX5 := Lib.hid hX5
                      clear r hg hb hk1 hn hn2 hd hgs bx hkx hX5
                      rw [HKX.out] at x0 x1 x2
                      unfold repV
                      go_wp2_with fail
                      rw [← HKX.out, ← HX5.out]
                      clear x0 x1 x2
                      refine (show_any 250 [] xs _ X5 HNP.out.row.row (by decide) (fun k _ => XR.out k) (by have := XL.out; omega) HNP.out.bl.lw).mono ?_
                      rintro e w6 ⟨As, cs, rfl, hb⟩
                      rw [XS.out]
                      have HN6 := Lib.hid (show ∃ F, NP w w6 b F (lineS 250 0) kx 250 [] (.slice Au xs.length cu) G5 xs from ⟨_, HNP.out.below hb⟩)
                      clear hb
                      go_wp2_with fail
                      go_loopw [30] (fun i wr => ∃ k : Nat, k ≤ 32 ∧ i = .int .i64 k ∧ ∃ F, NP w wr b F (lineS 250 k) kx 250 [] (.slice Au xs.length cu) G5 xs) (fun i _ => 32 - (intOf i).toNat)
                      case atStart => exact ⟨0, Nat.zero_le _, rfl, HN6.out⟩
                      case round =>
                        obtain ⟨k, hk, rfl, F, hnp⟩ := hrel
                        by_cases hlt : k < 32
                        · have HQ := Lib.hid hnp
                          clear hnp
                          go_wp2_with fail
                          refine (line_of (s := [50, 53, 48, 45, 120]) HQ.out.r HQ.out.bl (by decide) (more_step 250 k hlt).1 (more_step 250 k hlt).2.1 (more_step 250 k hlt).2.2).mono ?_
                          rintro e w7 ⟨F2, rfl, r, hb, hk1, hn⟩
                          have HN := Lib.hid (HQ.out.turnR r hb hk1 hn)
                          clear r hb hk1 hn
                          go_wp2_with fail
                          go_roundw
                          case rel => exact ⟨k + 1, by omega, by go_num, _, HN.out⟩
                          case measure => simp [intOf]; omega
                        · obtain rfl : k = 32 := by omega
                          rw [show ((32 : Nat) : Int) = 32 from rfl]
                          have HQ := Lib.hid hnp
                          clear hnp hk hlt
                          go_wp2_with fail
                          refine (line_of (s := [50, 53, 48, 32, 120]) HQ.out.r HQ.out.bl (by decide) last_step32.1 last_step32.2.1 rfl).mono ?_
                          rintro e w7 ⟨F7, rfl, r, hb, hk1, hn⟩
                          have HQ7 := Lib.hid (HQ.out.turnR r hb hk1 hn)
                          clear r hb hk1 hn
                          go_wp2_with fail
                          refine (take_of (lc := 0) (lst := []) (lls := []) (has := false) HQ7.out.r HQ7.out.bl last_step32.2.2.2.1 last_step32.2.2.2.2.1 last_step32.2.2.2.2.2 rfl).mono ?_
                          rintro e w8 ⟨u8, F8, G8, rfl, r, hg, hb, hk1, hn, -, -, -⟩
                          obtain ⟨A8, c8, rfl⟩ := hg.form
                          obtain ⟨X8, hX8⟩ : ∃ X, X = w8.alloc (Obj.cells #[.int .i64 0, sv [], .slice A8 0 c8] 28) := ⟨_, rfl⟩
                          have HQ8 := Lib.hid ((HQ7.out.turnR r hb hk1 hn).below (show Below w8.heap.size w8 X8 by rw [hX8]; exact below_alloc _ _))
                          have x2 := HQ8.out.box.c2
                          have HO8 := Lib.hid HQ8.out.row.1
                          have HS8 := Lib.hid (show w.heap.size ≤ X8.heap.size from HQ8.out.bl.size)
                          rw [hX8] at x2 HO8 HS8
                          have HX8 := Lib.hid hX8
                          clear r hg hb hk1 hn hX8
                          unfold repV
                          go_wp2_with (first
                            | (at_builtin; refine row_append2 (n := w.heap.size) (ls := xs) HO8.out HS8.out (by have := XL.out; omega) [120] _ rfl (.tmp 235) (.tmp 236) rfl rfl rfl _ _ rfl (by simp) ?_; intro g9 cap9 w9 hown hgr hor hlt9; rw [← HX8.out] at hgr hor; have hA := HQ8.out.append [120] _ hown hgr hor hlt9; have y2 := hA.1.c2; have f2 := hA.1.fr 2; have HQ9 := Lib.hid hA.2; clear hA hown hgr hor hlt9))
                          obtain ⟨w9', hw9⟩ : ∃ X, X = w9.setCell ⟨kx, 2, none⟩ (.slice (some ⟨g9, 0, none⟩) (xs.length + 1) cap9) := ⟨_, rfl⟩
                          rw [← hw9] at HQ9 ⊢
                          clear hw9 y2 f2 x2
                          have DD := Lib.hid (show (takenR (stepR (lineS 250 32) [50, 53, 48, 32, 120])).d = true from last_step32.2.2.1)
                          refine (line_of (s := [50, 53, 48, 32, 120]) HQ9.out.r HQ9.out.bl (by decide) (done_dead' DD.out _) (err_dead' DD.out _) (step_dead' DD.out _)).mono ?_
                          rintro e w10 ⟨F10, rfl, r, hb, hk1, hn⟩
                          have HQ10 := Lib.hid (HQ9.out.turnR r hb hk1 hn)
                          clear r hb hk1 hn
                          have x0 := HQ10.out.box.c0; have x1 := HQ10.out.box.c1; have x2 := HQ10.out.box.c2
                          go_wp2_with fail
                          clear x0 x1 x2
                          refine (show_any 250 [] (xs ++ [[120]]) (.slice (some ⟨g9, 0, none⟩) (xs.length + 1) cap9) w10 HQ10.out.row.row (by decide) (fun k _ => ?t1) (by rw [List.length_append, XL.out]; decide) HQ10.out.bl.lw).mono ?_
                          case t1 =>
                            rw [List.getD_eq_getElem?_getD, List.getElem?_append]
                            split
                            · have := XR.out k
                              rwa [List.getD_eq_getElem?_getD] at this
                            · rcases (show k - xs.length = 0 ∨ 0 < k - xs.length by omega) with h | h
                              · rw [h]; decide
                              · rw [List.getElem?_eq_none (by simp; omega)]; decide
                          rintro e w11 ⟨As2, cs2, rfl, hb⟩
                          rw [XS3.out]
                          have HQ11 := Lib.hid (HQ10.out.below hb)
                          clear hb
                          go_wp2_with fail
                          refine (dead_any HQ11.out.r).mono ?_
                          rintro e w11' ⟨rfl, rfl⟩
                          rw [DD.out]
                          go_wp2_with fail
                          refine (show_any 250 [] [] (.slice none 0 0) w11 ⟨none, 0, rfl, fun h => absurd h (by decide)⟩ (by decide) (fun k h => absurd h (by simp)) (by decide) HQ11.out.bl.lw).mono ?_
                          rintro e w12 ⟨As3, cs3, rfl, hb⟩
                          rw [show0]
                          have B12' := Lib.hid (HQ11.out.bl.step hb)
                          clear hb
                          go_wp2_with fail
                          obtain ⟨XE, hXE⟩ : ∃ X, X = w12.alloc (Obj.cells #[.string { data := #[120] }] 9) := ⟨_, rfl⟩
                          have bx : Below w12.heap.size w12 XE := by rw [hXE]; exact below_alloc _ _
                          have hlit : RowIs XE (.slice (some ⟨w12.heap.size, 0, none⟩) ([[120]] : List (List UInt8)).length 1) [[120]] := lit_row (by rw [hXE]; exact heap_alloc_new _ _)
                          rw [← hXE]
                          have HSH := Lib.hid (show_any 260 [] [[120]] _ XE hlit (by decide) (fun k _ => by rcases k with _ | k <;> simp) (by decide) ((B12'.out).step bx).lw)
                          rw [show260] at HSH
                          have B13 := Lib.hid ((B12'.out).step bx)
                          clear bx hlit hXE
                          refine (HSH.out).mono ?_
                          rintro e w13 ⟨As4, cs4, rfl, hb⟩
                          have B14 := Lib.hid ((B13.out).step hb)
                          clear hb
                          go_wp2_with fail
                          obtain ⟨XG, hXG⟩ : ∃ X, X = w13.alloc (Obj.cells #[.string { data := #[97] }, .string { data := #[10] }] 9) := ⟨_, rfl⟩
                          have bx : Below w13.heap.size w13 XG := by rw [hXG]; exact below_alloc _ _
                          have hlit : RowIs XG (.slice (some ⟨w13.heap.size, 0, none⟩) ([[97], [10]] : List (List UInt8)).length 2) [[97], [10]] := lit_row (by rw [hXG]; exact heap_alloc_new _ _)
                          rw [← hXG]
                          have HSL := Lib.hid (show_any 250 [] [[97], [10]] _ XG hlit (by decide) (fun k _ => by rcases k with _ | _ | k <;> simp) (by decide) ((B14.out).step bx).lw)
                          rw [showLF] at HSL
                          have B15 := Lib.hid ((B14.out).step bx)
                          clear bx hlit hXG
                          refine (HSL.out).mono ?_
                          rintro e w14 ⟨As5, cs5, rfl, hb⟩
                          have B16 := Lib.hid ((B15.out).step hb).below
                          clear hb
                          go_wp2_with fail
                          go_ret
                          exact ⟨rfl, B16.out⟩
end Go.Proofs.YtbpdbfllkehciaaDoor
