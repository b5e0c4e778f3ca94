
/- What becomes of an instance: the program's answer and the document's are one. No walk here. -/
import Derived.Test.YtmbafedpbmldmaaIdF
namespace Go.Proofs.Ytmbafedpbmldmaa.Does
open Inst
set_option linter.unusedSimpArgs false
set_option maxHeartbeats 4000000 in
theorem ref_do1 (x : Ins) (now at_ : Int) (c : Cfg) (h : In0 now at_ c) (hm : mayDoB x 1 now at_ c = true) (s0 : 1 ≤ x.st) (s1 : x.st ≤ 9) : refA x 1 now at_ c = doV x 1 now at_ c := by
  have pi : (0 < c.hookIn) = ¬ (c.hookIn = 0) := propext ⟨fun e => by omega, fun e => by have := h.a0; omega⟩
  have po : (0 < c.hookOut) = ¬ (c.hookOut = 0) := propext ⟨fun e => by omega, fun e => by have := h.b0; omega⟩
  obtain ⟨id, tok, pool, wt, spot, st, due, ntd, kill, risk, held, ver⟩ := x
  replace s0 : 1 ≤ st := s0
  replace s1 : st ≤ 9 := s1
  rcases (by omega : st = 1 ∨ st = 2 ∨ st = 3 ∨ st = 4 ∨ st = 5 ∨ st = 6 ∨ st = 7 ∨ st = 8 ∨ st = 9) with rfl | rfl | rfl | rfl | rfl | rfl | rfl | rfl | rfl
  · skip
    have hr : rowOf 1 1 = (some ⟨1, 1, 2, 2, 0⟩ : Option Rw) := by rfl
    by_cases hi : c.hookIn = 0 <;> simp [refA, doV, hm, hr, rowV, unhV, goneX, untV, readyA, noticeA, beatA, tickA, leavesA, oneA, toX, notX, dueX, pi, po, hi]
  · skip
    have hr : rowOf 1 2 = none := by rfl
    simp [refA, doV, hm, hr, rowV, unhV, goneX, untV, readyA, noticeA, beatA, tickA, leavesA, oneA, toX, notX, dueX, pi, po]
  · skip
    have hr : rowOf 1 3 = none := by rfl
    simp [refA, doV, hm, hr, rowV, unhV, goneX, untV, readyA, noticeA, beatA, tickA, leavesA, oneA, toX, notX, dueX, pi, po]
  · skip
    have hr : rowOf 1 4 = none := by rfl
    simp [refA, doV, hm, hr, rowV, unhV, goneX, untV, readyA, noticeA, beatA, tickA, leavesA, oneA, toX, notX, dueX, pi, po]
  · skip
    have hr : rowOf 1 5 = none := by rfl
    simp [refA, doV, hm, hr, rowV, unhV, goneX, untV, readyA, noticeA, beatA, tickA, leavesA, oneA, toX, notX, dueX, pi, po]
  · skip
    have hr : rowOf 1 6 = none := by rfl
    simp [refA, doV, hm, hr, rowV, unhV, goneX, untV, readyA, noticeA, beatA, tickA, leavesA, oneA, toX, notX, dueX, pi, po]
  · skip
    have hr : rowOf 1 7 = (some ⟨1, 7, 7, 5, 3⟩ : Option Rw) := by rfl
    simp [refA, doV, hm, hr, rowV, unhV, goneX, untV, readyA, noticeA, beatA, tickA, leavesA, oneA, toX, notX, dueX, pi, po]
  · skip
    have hr : rowOf 1 8 = none := by rfl
    simp [refA, doV, hm, hr, rowV, unhV, goneX, untV, readyA, noticeA, beatA, tickA, leavesA, oneA, toX, notX, dueX, pi, po]
  · skip
    have hr : rowOf 1 9 = (some ⟨1, 9, 2, 2, 0⟩ : Option Rw) := by rfl
    by_cases hi : c.hookIn = 0 <;> simp [refA, doV, hm, hr, rowV, unhV, goneX, untV, readyA, noticeA, beatA, tickA, leavesA, oneA, toX, notX, dueX, pi, po, hi]
set_option maxHeartbeats 4000000 in
theorem ref_do2 (x : Ins) (now at_ : Int) (c : Cfg) (h : In0 now at_ c) (hm : mayDoB x 2 now at_ c = true) (s0 : 1 ≤ x.st) (s1 : x.st ≤ 9) : refA x 2 now at_ c = doV x 2 now at_ c := by
  have pi : (0 < c.hookIn) = ¬ (c.hookIn = 0) := propext ⟨fun e => by omega, fun e => by have := h.a0; omega⟩
  have po : (0 < c.hookOut) = ¬ (c.hookOut = 0) := propext ⟨fun e => by omega, fun e => by have := h.b0; omega⟩
  obtain ⟨id, tok, pool, wt, spot, st, due, ntd, kill, risk, held, ver⟩ := x
  replace s0 : 1 ≤ st := s0
  replace s1 : st ≤ 9 := s1
  rcases (by omega : st = 1 ∨ st = 2 ∨ st = 3 ∨ st = 4 ∨ st = 5 ∨ st = 6 ∨ st = 7 ∨ st = 8 ∨ st = 9) with rfl | rfl | rfl | rfl | rfl | rfl | rfl | rfl | rfl
  · skip
    have hr : rowOf 2 1 = (some ⟨2, 1, 6, 0, 2⟩ : Option Rw) := by rfl
    simp [refA, doV, hm, hr, rowV, unhV, goneX, untV, readyA, noticeA, beatA, tickA, leavesA, oneA, toX, notX, dueX, pi, po]
  · skip
    have hr : rowOf 2 2 = (some ⟨2, 2, 6, 0, 2⟩ : Option Rw) := by rfl
    simp [refA, doV, hm, hr, rowV, unhV, goneX, untV, readyA, noticeA, beatA, tickA, leavesA, oneA, toX, notX, dueX, pi, po]
  · skip
    have hr : rowOf 2 3 = (some ⟨2, 3, 4, 4, 0⟩ : Option Rw) := by rfl
    simp [refA, doV, hm, hr, rowV, unhV, goneX, untV, readyA, noticeA, beatA, tickA, leavesA, oneA, toX, notX, dueX, pi, po]
  · skip
    have hr : rowOf 2 4 = (some ⟨2, 4, 4, 1, 0⟩ : Option Rw) := by rfl
    simp [refA, doV, hm, hr, rowV, unhV, goneX, untV, readyA, noticeA, beatA, tickA, leavesA, oneA, toX, notX, dueX, pi, po]
  · skip
    have hr : rowOf 2 5 = (some ⟨2, 5, 5, 1, 0⟩ : Option Rw) := by rfl
    simp [refA, doV, hm, hr, rowV, unhV, goneX, untV, readyA, noticeA, beatA, tickA, leavesA, oneA, toX, notX, dueX, pi, po]
  · skip
    have hr : rowOf 2 6 = none := by rfl
    simp [refA, doV, hm, hr, rowV, unhV, goneX, untV, readyA, noticeA, beatA, tickA, leavesA, oneA, toX, notX, dueX, pi, po]
  · skip
    have hr : rowOf 2 7 = (some ⟨2, 7, 6, 0, 2⟩ : Option Rw) := by rfl
    simp [refA, doV, hm, hr, rowV, unhV, goneX, untV, readyA, noticeA, beatA, tickA, leavesA, oneA, toX, notX, dueX, pi, po]
  · skip
    have hr : rowOf 2 8 = (some ⟨2, 8, 6, 0, 2⟩ : Option Rw) := by rfl
    simp [refA, doV, hm, hr, rowV, unhV, goneX, untV, readyA, noticeA, beatA, tickA, leavesA, oneA, toX, notX, dueX, pi, po]
  · skip
    have hr : rowOf 2 9 = (some ⟨2, 9, 6, 0, 2⟩ : Option Rw) := by rfl
    simp [refA, doV, hm, hr, rowV, unhV, goneX, untV, readyA, noticeA, beatA, tickA, leavesA, oneA, toX, notX, dueX, pi, po]
set_option maxHeartbeats 4000000 in
theorem ref_do3 (x : Ins) (now at_ : Int) (c : Cfg) (h : In0 now at_ c) (hm : mayDoB x 3 now at_ c = true) (s0 : 1 ≤ x.st) (s1 : x.st ≤ 9) : refA x 3 now at_ c = doV x 3 now at_ c := by
  have pi : (0 < c.hookIn) = ¬ (c.hookIn = 0) := propext ⟨fun e => by omega, fun e => by have := h.a0; omega⟩
  have po : (0 < c.hookOut) = ¬ (c.hookOut = 0) := propext ⟨fun e => by omega, fun e => by have := h.b0; omega⟩
  obtain ⟨id, tok, pool, wt, spot, st, due, ntd, kill, risk, held, ver⟩ := x
  replace s0 : 1 ≤ st := s0
  replace s1 : st ≤ 9 := s1
  rcases (by omega : st = 1 ∨ st = 2 ∨ st = 3 ∨ st = 4 ∨ st = 5 ∨ st = 6 ∨ st = 7 ∨ st = 8 ∨ st = 9) with rfl | rfl | rfl | rfl | rfl | rfl | rfl | rfl | rfl
  · skip
    have hr : rowOf 3 1 = none := by rfl
    simp [refA, doV, hm, hr, rowV, unhV, goneX, untV, readyA, noticeA, beatA, tickA, leavesA, oneA, toX, notX, dueX, pi, po]
  · skip
    have hr : rowOf 3 2 = none := by rfl
    simp [refA, doV, hm, hr, rowV, unhV, goneX, untV, readyA, noticeA, beatA, tickA, leavesA, oneA, toX, notX, dueX, pi, po]
  · skip
    have hr : rowOf 3 3 = (some ⟨3, 3, 3, 1, 0⟩ : Option Rw) := by rfl
    simp [refA, doV, hm, hr, rowV, unhV, goneX, untV, readyA, noticeA, beatA, tickA, leavesA, oneA, toX, notX, dueX, pi, po]
  · skip
    have hr : rowOf 3 4 = none := by rfl
    simp [refA, doV, hm, hr, rowV, unhV, goneX, untV, readyA, noticeA, beatA, tickA, leavesA, oneA, toX, notX, dueX, pi, po]
  · skip
    have hr : rowOf 3 5 = none := by rfl
    simp [refA, doV, hm, hr, rowV, unhV, goneX, untV, readyA, noticeA, beatA, tickA, leavesA, oneA, toX, notX, dueX, pi, po]
  · skip
    have hr : rowOf 3 6 = none := by rfl
    simp [refA, doV, hm, hr, rowV, unhV, goneX, untV, readyA, noticeA, beatA, tickA, leavesA, oneA, toX, notX, dueX, pi, po]
  · skip
    have hr : rowOf 3 7 = none := by rfl
    simp [refA, doV, hm, hr, rowV, unhV, goneX, untV, readyA, noticeA, beatA, tickA, leavesA, oneA, toX, notX, dueX, pi, po]
  · skip
    have hr : rowOf 3 8 = none := by rfl
    simp [refA, doV, hm, hr, rowV, unhV, goneX, untV, readyA, noticeA, beatA, tickA, leavesA, oneA, toX, notX, dueX, pi, po]
  · skip
    have hr : rowOf 3 9 = none := by rfl
    simp [refA, doV, hm, hr, rowV, unhV, goneX, untV, readyA, noticeA, beatA, tickA, leavesA, oneA, toX, notX, dueX, pi, po]
set_option maxHeartbeats 4000000 in
theorem ref_do4 (x : Ins) (now at_ : Int) (c : Cfg) (h : In0 now at_ c) (hm : mayDoB x 4 now at_ c = true) (s0 : 1 ≤ x.st) (s1 : x.st ≤ 9) : refA x 4 now at_ c = doV x 4 now at_ c := by
  have pi : (0 < c.hookIn) = ¬ (c.hookIn = 0) := propext ⟨fun e => by omega, fun e => by have := h.a0; omega⟩
  have po : (0 < c.hookOut) = ¬ (c.hookOut = 0) := propext ⟨fun e => by omega, fun e => by have := h.b0; omega⟩
  obtain ⟨id, tok, pool, wt, spot, st, due, ntd, kill, risk, held, ver⟩ := x
  replace s0 : 1 ≤ st := s0
  replace s1 : st ≤ 9 := s1
  rcases (by omega : st = 1 ∨ st = 2 ∨ st = 3 ∨ st = 4 ∨ st = 5 ∨ st = 6 ∨ st = 7 ∨ st = 8 ∨ st = 9) with rfl | rfl | rfl | rfl | rfl | rfl | rfl | rfl | rfl
  · skip
    have hr : rowOf 4 1 = none := by rfl
    simp [refA, doV, hm, hr, rowV, unhV, goneX, untV, readyA, noticeA, beatA, tickA, leavesA, oneA, toX, notX, dueX, pi, po]
  · skip
    have hr : rowOf 4 2 = (some ⟨4, 2, 2, 2, 0⟩ : Option Rw) := by rfl
    simp [refA, doV, hm, hr, rowV, unhV, goneX, untV, readyA, noticeA, beatA, tickA, leavesA, oneA, toX, notX, dueX, pi, po]
  · skip
    have hr : rowOf 4 3 = none := by rfl
    simp [refA, doV, hm, hr, rowV, unhV, goneX, untV, readyA, noticeA, beatA, tickA, leavesA, oneA, toX, notX, dueX, pi, po]
  · skip
    have hr : rowOf 4 4 = none := by rfl
    simp [refA, doV, hm, hr, rowV, unhV, goneX, untV, readyA, noticeA, beatA, tickA, leavesA, oneA, toX, notX, dueX, pi, po]
  · skip
    have hr : rowOf 4 5 = (some ⟨4, 5, 5, 3, 0⟩ : Option Rw) := by rfl
    cases ntd <;> simp [refA, doV, hm, hr, rowV, unhV, goneX, untV, readyA, noticeA, beatA, tickA, leavesA, oneA, toX, notX, dueX, pi, po]
  · skip
    have hr : rowOf 4 6 = none := by rfl
    simp [refA, doV, hm, hr, rowV, unhV, goneX, untV, readyA, noticeA, beatA, tickA, leavesA, oneA, toX, notX, dueX, pi, po]
  · skip
    have hr : rowOf 4 7 = none := by rfl
    simp [refA, doV, hm, hr, rowV, unhV, goneX, untV, readyA, noticeA, beatA, tickA, leavesA, oneA, toX, notX, dueX, pi, po]
  · skip
    have hr : rowOf 4 8 = none := by rfl
    simp [refA, doV, hm, hr, rowV, unhV, goneX, untV, readyA, noticeA, beatA, tickA, leavesA, oneA, toX, notX, dueX, pi, po]
  · skip
    have hr : rowOf 4 9 = none := by rfl
    simp [refA, doV, hm, hr, rowV, unhV, goneX, untV, readyA, noticeA, beatA, tickA, leavesA, oneA, toX, notX, dueX, pi, po]
set_option maxHeartbeats 4000000 in
theorem ref_do5 (x : Ins) (now at_ : Int) (c : Cfg) (h : In0 now at_ c) (hm : mayDoB x 5 now at_ c = true) (s0 : 1 ≤ x.st) (s1 : x.st ≤ 9) : refA x 5 now at_ c = doV x 5 now at_ c := by
  have pi : (0 < c.hookIn) = ¬ (c.hookIn = 0) := propext ⟨fun e => by omega, fun e => by have := h.a0; omega⟩
  have po : (0 < c.hookOut) = ¬ (c.hookOut = 0) := propext ⟨fun e => by omega, fun e => by have := h.b0; omega⟩
  obtain ⟨id, tok, pool, wt, spot, st, due, ntd, kill, risk, held, ver⟩ := x
  replace s0 : 1 ≤ st := s0
  replace s1 : st ≤ 9 := s1
  rcases (by omega : st = 1 ∨ st = 2 ∨ st = 3 ∨ st = 4 ∨ st = 5 ∨ st = 6 ∨ st = 7 ∨ st = 8 ∨ st = 9) with rfl | rfl | rfl | rfl | rfl | rfl | rfl | rfl | rfl
  · skip
    have hr : rowOf 5 1 = none := by rfl
    simp [refA, doV, hm, hr, rowV, unhV, goneX, untV, readyA, noticeA, beatA, tickA, leavesA, oneA, toX, notX, dueX, pi, po]
  · skip
    have hr : rowOf 5 2 = (some ⟨5, 2, 3, 0, 0⟩ : Option Rw) := by rfl
    simp [refA, doV, hm, hr, rowV, unhV, goneX, untV, readyA, noticeA, beatA, tickA, leavesA, oneA, toX, notX, dueX, pi, po]
  · skip
    have hr : rowOf 5 3 = none := by rfl
    simp [refA, doV, hm, hr, rowV, unhV, goneX, untV, readyA, noticeA, beatA, tickA, leavesA, oneA, toX, notX, dueX, pi, po]
  · skip
    have hr : rowOf 5 4 = none := by rfl
    simp [refA, doV, hm, hr, rowV, unhV, goneX, untV, readyA, noticeA, beatA, tickA, leavesA, oneA, toX, notX, dueX, pi, po]
  · skip
    have hr : rowOf 5 5 = (some ⟨5, 5, 6, 0, 2⟩ : Option Rw) := by rfl
    simp [refA, doV, hm, hr, rowV, unhV, goneX, untV, readyA, noticeA, beatA, tickA, leavesA, oneA, toX, notX, dueX, pi, po]
  · skip
    have hr : rowOf 5 6 = none := by rfl
    simp [refA, doV, hm, hr, rowV, unhV, goneX, untV, readyA, noticeA, beatA, tickA, leavesA, oneA, toX, notX, dueX, pi, po]
  · skip
    have hr : rowOf 5 7 = none := by rfl
    simp [refA, doV, hm, hr, rowV, unhV, goneX, untV, readyA, noticeA, beatA, tickA, leavesA, oneA, toX, notX, dueX, pi, po]
  · skip
    have hr : rowOf 5 8 = none := by rfl
    simp [refA, doV, hm, hr, rowV, unhV, goneX, untV, readyA, noticeA, beatA, tickA, leavesA, oneA, toX, notX, dueX, pi, po]
  · skip
    have hr : rowOf 5 9 = none := by rfl
    simp [refA, doV, hm, hr, rowV, unhV, goneX, untV, readyA, noticeA, beatA, tickA, leavesA, oneA, toX, notX, dueX, pi, po]
set_option maxHeartbeats 4000000 in
theorem ref_do6 (x : Ins) (now at_ : Int) (c : Cfg) (h : In0 now at_ c) (hm : mayDoB x 6 now at_ c = true) (s0 : 1 ≤ x.st) (s1 : x.st ≤ 9) : refA x 6 now at_ c = doV x 6 now at_ c := by
  have pi : (0 < c.hookIn) = ¬ (c.hookIn = 0) := propext ⟨fun e => by omega, fun e => by have := h.a0; omega⟩
  have po : (0 < c.hookOut) = ¬ (c.hookOut = 0) := propext ⟨fun e => by omega, fun e => by have := h.b0; omega⟩
  obtain ⟨id, tok, pool, wt, spot, st, due, ntd, kill, risk, held, ver⟩ := x
  replace s0 : 1 ≤ st := s0
  replace s1 : st ≤ 9 := s1
  rcases (by omega : st = 1 ∨ st = 2 ∨ st = 3 ∨ st = 4 ∨ st = 5 ∨ st = 6 ∨ st = 7 ∨ st = 8 ∨ st = 9) with rfl | rfl | rfl | rfl | rfl | rfl | rfl | rfl | rfl
  · skip
    have hr : rowOf 6 1 = none := by rfl
    simp [refA, doV, hm, hr, rowV, unhV, goneX, untV, readyA, noticeA, beatA, tickA, leavesA, oneA, toX, notX, dueX, pi, po]
  · skip
    have hr : rowOf 6 2 = (some ⟨6, 2, 6, 0, 2⟩ : Option Rw) := by rfl
    simp [refA, doV, hm, hr, rowV, unhV, goneX, untV, readyA, noticeA, beatA, tickA, leavesA, oneA, toX, notX, dueX, pi, po]
  · skip
    have hr : rowOf 6 3 = none := by rfl
    simp [refA, doV, hm, hr, rowV, unhV, goneX, untV, readyA, noticeA, beatA, tickA, leavesA, oneA, toX, notX, dueX, pi, po]
  · skip
    have hr : rowOf 6 4 = none := by rfl
    simp [refA, doV, hm, hr, rowV, unhV, goneX, untV, readyA, noticeA, beatA, tickA, leavesA, oneA, toX, notX, dueX, pi, po]
  · skip
    have hr : rowOf 6 5 = (some ⟨6, 5, 6, 0, 2⟩ : Option Rw) := by rfl
    simp [refA, doV, hm, hr, rowV, unhV, goneX, untV, readyA, noticeA, beatA, tickA, leavesA, oneA, toX, notX, dueX, pi, po]
  · skip
    have hr : rowOf 6 6 = none := by rfl
    simp [refA, doV, hm, hr, rowV, unhV, goneX, untV, readyA, noticeA, beatA, tickA, leavesA, oneA, toX, notX, dueX, pi, po]
  · skip
    have hr : rowOf 6 7 = none := by rfl
    simp [refA, doV, hm, hr, rowV, unhV, goneX, untV, readyA, noticeA, beatA, tickA, leavesA, oneA, toX, notX, dueX, pi, po]
  · skip
    have hr : rowOf 6 8 = none := by rfl
    simp [refA, doV, hm, hr, rowV, unhV, goneX, untV, readyA, noticeA, beatA, tickA, leavesA, oneA, toX, notX, dueX, pi, po]
  · skip
    have hr : rowOf 6 9 = none := by rfl
    simp [refA, doV, hm, hr, rowV, unhV, goneX, untV, readyA, noticeA, beatA, tickA, leavesA, oneA, toX, notX, dueX, pi, po]
set_option maxHeartbeats 4000000 in
theorem ref_do7 (x : Ins) (now at_ : Int) (c : Cfg) (h : In0 now at_ c) (hm : mayDoB x 7 now at_ c = true) (s0 : 1 ≤ x.st) (s1 : x.st ≤ 9) : refA x 7 now at_ c = doV x 7 now at_ c := by
  have pi : (0 < c.hookIn) = ¬ (c.hookIn = 0) := propext ⟨fun e => by omega, fun e => by have := h.a0; omega⟩
  have po : (0 < c.hookOut) = ¬ (c.hookOut = 0) := propext ⟨fun e => by omega, fun e => by have := h.b0; omega⟩
  obtain ⟨id, tok, pool, wt, spot, st, due, ntd, kill, risk, held, ver⟩ := x
  replace s0 : 1 ≤ st := s0
  replace s1 : st ≤ 9 := s1
  rcases (by omega : st = 1 ∨ st = 2 ∨ st = 3 ∨ st = 4 ∨ st = 5 ∨ st = 6 ∨ st = 7 ∨ st = 8 ∨ st = 9) with rfl | rfl | rfl | rfl | rfl | rfl | rfl | rfl | rfl
  · skip
    have hr : rowOf 7 1 = none := by rfl
    simp [refA, doV, hm, hr, rowV, unhV, goneX, untV, readyA, noticeA, beatA, tickA, leavesA, oneA, toX, notX, dueX, pi, po]
  · skip
    have hr : rowOf 7 2 = none := by rfl
    simp [refA, doV, hm, hr, rowV, unhV, goneX, untV, readyA, noticeA, beatA, tickA, leavesA, oneA, toX, notX, dueX, pi, po]
  · skip
    have hr : rowOf 7 3 = none := by rfl
    simp [refA, doV, hm, hr, rowV, unhV, goneX, untV, readyA, noticeA, beatA, tickA, leavesA, oneA, toX, notX, dueX, pi, po]
  · skip
    have hr : rowOf 7 4 = none := by rfl
    simp [refA, doV, hm, hr, rowV, unhV, goneX, untV, readyA, noticeA, beatA, tickA, leavesA, oneA, toX, notX, dueX, pi, po]
  · skip
    have hr : rowOf 7 5 = none := by rfl
    simp [refA, doV, hm, hr, rowV, unhV, goneX, untV, readyA, noticeA, beatA, tickA, leavesA, oneA, toX, notX, dueX, pi, po]
  · skip
    have hr : rowOf 7 6 = none := by rfl
    simp [refA, doV, hm, hr, rowV, unhV, goneX, untV, readyA, noticeA, beatA, tickA, leavesA, oneA, toX, notX, dueX, pi, po]
  · skip
    have hr : rowOf 7 7 = (some ⟨7, 7, 8, 0, 0⟩ : Option Rw) := by rfl
    simp [refA, doV, hm, hr, rowV, unhV, goneX, untV, readyA, noticeA, beatA, tickA, leavesA, oneA, toX, notX, dueX, pi, po]
  · skip
    have hr : rowOf 7 8 = none := by rfl
    simp [refA, doV, hm, hr, rowV, unhV, goneX, untV, readyA, noticeA, beatA, tickA, leavesA, oneA, toX, notX, dueX, pi, po]
  · skip
    have hr : rowOf 7 9 = none := by rfl
    simp [refA, doV, hm, hr, rowV, unhV, goneX, untV, readyA, noticeA, beatA, tickA, leavesA, oneA, toX, notX, dueX, pi, po]
set_option maxHeartbeats 4000000 in
theorem ref_do8 (x : Ins) (now at_ : Int) (c : Cfg) (h : In0 now at_ c) (hm : mayDoB x 8 now at_ c = true) (s0 : 1 ≤ x.st) (s1 : x.st ≤ 9) : refA x 8 now at_ c = doV x 8 now at_ c := by
  have pi : (0 < c.hookIn) = ¬ (c.hookIn = 0) := propext ⟨fun e => by omega, fun e => by have := h.a0; omega⟩
  have po : (0 < c.hookOut) = ¬ (c.hookOut = 0) := propext ⟨fun e => by omega, fun e => by have := h.b0; omega⟩
  obtain ⟨id, tok, pool, wt, spot, st, due, ntd, kill, risk, held, ver⟩ := x
  replace s0 : 1 ≤ st := s0
  replace s1 : st ≤ 9 := s1
  rcases (by omega : st = 1 ∨ st = 2 ∨ st = 3 ∨ st = 4 ∨ st = 5 ∨ st = 6 ∨ st = 7 ∨ st = 8 ∨ st = 9) with rfl | rfl | rfl | rfl | rfl | rfl | rfl | rfl | rfl
  · skip
    have hr : rowOf 8 1 = (some ⟨8, 1, 6, 0, 2⟩ : Option Rw) := by rfl
    by_cases hd : now < due <;> simp [refA, doV, hm, hr, rowV, unhV, goneX, untV, readyA, noticeA, beatA, tickA, leavesA, oneA, toX, notX, dueX, pi, po, hd]
  · skip
    have hr : rowOf 8 2 = (some ⟨8, 2, 6, 0, 2⟩ : Option Rw) := by rfl
    by_cases hd : now < due <;> simp [refA, doV, hm, hr, rowV, unhV, goneX, untV, readyA, noticeA, beatA, tickA, leavesA, oneA, toX, notX, dueX, pi, po, hd]
  · skip
    have hr : rowOf 8 3 = none := by rfl
    by_cases hd : now < due <;> simp [refA, doV, hm, hr, rowV, unhV, goneX, untV, readyA, noticeA, beatA, tickA, leavesA, oneA, toX, notX, dueX, pi, po, hd]
  · skip
    have hr : rowOf 8 4 = (some ⟨8, 4, 5, 3, 0⟩ : Option Rw) := by rfl
    by_cases hi : c.hookOut = 0 <;> by_cases hd : now < due <;> simp [refA, doV, hm, hr, rowV, unhV, goneX, untV, readyA, noticeA, beatA, tickA, leavesA, oneA, toX, notX, dueX, pi, po, hi, hd]
  · skip
    have hr : rowOf 8 5 = (some ⟨8, 5, 6, 0, 2⟩ : Option Rw) := by rfl
    by_cases hd : now < due <;> simp [refA, doV, hm, hr, rowV, unhV, goneX, untV, readyA, noticeA, beatA, tickA, leavesA, oneA, toX, notX, dueX, pi, po, hd]
  · skip
    have hr : rowOf 8 6 = none := by rfl
    by_cases hd : now < due <;> simp [refA, doV, hm, hr, rowV, unhV, goneX, untV, readyA, noticeA, beatA, tickA, leavesA, oneA, toX, notX, dueX, pi, po, hd]
  · skip
    have hr : rowOf 8 7 = (some ⟨8, 7, 6, 0, 2⟩ : Option Rw) := by rfl
    by_cases hd : now < due <;> simp [refA, doV, hm, hr, rowV, unhV, goneX, untV, readyA, noticeA, beatA, tickA, leavesA, oneA, toX, notX, dueX, pi, po, hd]
  · skip
    have hr : rowOf 8 8 = none := by rfl
    by_cases hd : now < due <;> simp [refA, doV, hm, hr, rowV, unhV, goneX, untV, readyA, noticeA, beatA, tickA, leavesA, oneA, toX, notX, dueX, pi, po, hd]
  · skip
    have hr : rowOf 8 9 = (some ⟨8, 9, 6, 0, 2⟩ : Option Rw) := by rfl
    by_cases hd : now < due <;> simp [refA, doV, hm, hr, rowV, unhV, goneX, untV, readyA, noticeA, beatA, tickA, leavesA, oneA, toX, notX, dueX, pi, po, hd]
set_option maxHeartbeats 4000000 in
theorem ref_do9 (x : Ins) (now at_ : Int) (c : Cfg) (h : In0 now at_ c) (hm : mayDoB x 9 now at_ c = true) (s0 : 1 ≤ x.st) (s1 : x.st ≤ 9) : refA x 9 now at_ c = doV x 9 now at_ c := by
  have pi : (0 < c.hookIn) = ¬ (c.hookIn = 0) := propext ⟨fun e => by omega, fun e => by have := h.a0; omega⟩
  have po : (0 < c.hookOut) = ¬ (c.hookOut = 0) := propext ⟨fun e => by omega, fun e => by have := h.b0; omega⟩
  obtain ⟨id, tok, pool, wt, spot, st, due, ntd, kill, risk, held, ver⟩ := x
  replace s0 : 1 ≤ st := s0
  replace s1 : st ≤ 9 := s1
  rcases (by omega : st = 1 ∨ st = 2 ∨ st = 3 ∨ st = 4 ∨ st = 5 ∨ st = 6 ∨ st = 7 ∨ st = 8 ∨ st = 9) with rfl | rfl | rfl | rfl | rfl | rfl | rfl | rfl | rfl
  · skip
    have hr : rowOf 9 1 = none := by rfl
    simp [refA, doV, hm, hr, rowV, unhV, goneX, untV, readyA, noticeA, beatA, tickA, leavesA, oneA, toX, notX, dueX, pi, po]
  · skip
    have hr : rowOf 9 2 = none := by rfl
    simp [refA, doV, hm, hr, rowV, unhV, goneX, untV, readyA, noticeA, beatA, tickA, leavesA, oneA, toX, notX, dueX, pi, po]
  · skip
    have hr : rowOf 9 3 = (some ⟨9, 3, 4, 4, 0⟩ : Option Rw) := by rfl
    simp [refA, doV, hm, hr, rowV, unhV, goneX, untV, readyA, noticeA, beatA, tickA, leavesA, oneA, toX, notX, dueX, pi, po]
  · skip
    have hr : rowOf 9 4 = none := by rfl
    simp [refA, doV, hm, hr, rowV, unhV, goneX, untV, readyA, noticeA, beatA, tickA, leavesA, oneA, toX, notX, dueX, pi, po]
  · skip
    have hr : rowOf 9 5 = none := by rfl
    simp [refA, doV, hm, hr, rowV, unhV, goneX, untV, readyA, noticeA, beatA, tickA, leavesA, oneA, toX, notX, dueX, pi, po]
  · skip
    have hr : rowOf 9 6 = none := by rfl
    simp [refA, doV, hm, hr, rowV, unhV, goneX, untV, readyA, noticeA, beatA, tickA, leavesA, oneA, toX, notX, dueX, pi, po]
  · skip
    have hr : rowOf 9 7 = none := by rfl
    simp [refA, doV, hm, hr, rowV, unhV, goneX, untV, readyA, noticeA, beatA, tickA, leavesA, oneA, toX, notX, dueX, pi, po]
  · skip
    have hr : rowOf 9 8 = none := by rfl
    simp [refA, doV, hm, hr, rowV, unhV, goneX, untV, readyA, noticeA, beatA, tickA, leavesA, oneA, toX, notX, dueX, pi, po]
  · skip
    have hr : rowOf 9 9 = none := by rfl
    simp [refA, doV, hm, hr, rowV, unhV, goneX, untV, readyA, noticeA, beatA, tickA, leavesA, oneA, toX, notX, dueX, pi, po]
set_option maxHeartbeats 4000000 in
theorem ref_do10 (x : Ins) (now at_ : Int) (c : Cfg) (h : In0 now at_ c) (hm : mayDoB x 10 now at_ c = true) (s0 : 1 ≤ x.st) (s1 : x.st ≤ 9) : refA x 10 now at_ c = doV x 10 now at_ c := by
  have pi : (0 < c.hookIn) = ¬ (c.hookIn = 0) := propext ⟨fun e => by omega, fun e => by have := h.a0; omega⟩
  have po : (0 < c.hookOut) = ¬ (c.hookOut = 0) := propext ⟨fun e => by omega, fun e => by have := h.b0; omega⟩
  obtain ⟨id, tok, pool, wt, spot, st, due, ntd, kill, risk, held, ver⟩ := x
  replace s0 : 1 ≤ st := s0
  replace s1 : st ≤ 9 := s1
  rcases (by omega : st = 1 ∨ st = 2 ∨ st = 3 ∨ st = 4 ∨ st = 5 ∨ st = 6 ∨ st = 7 ∨ st = 8 ∨ st = 9) with rfl | rfl | rfl | rfl | rfl | rfl | rfl | rfl | rfl
  · skip
    have hr : rowOf 10 1 = (some ⟨10, 1, 6, 0, 2⟩ : Option Rw) := by rfl
    simp [refA, doV, hm, hr, rowV, unhV, goneX, untV, readyA, noticeA, beatA, tickA, leavesA, oneA, toX, notX, dueX, pi, po]
  · skip
    have hr : rowOf 10 2 = (some ⟨10, 2, 6, 0, 2⟩ : Option Rw) := by rfl
    simp [refA, doV, hm, hr, rowV, unhV, goneX, untV, readyA, noticeA, beatA, tickA, leavesA, oneA, toX, notX, dueX, pi, po]
  · skip
    have hr : rowOf 10 3 = none := by rfl
    simp [refA, doV, hm, hr, rowV, unhV, goneX, untV, readyA, noticeA, beatA, tickA, leavesA, oneA, toX, notX, dueX, pi, po]
  · skip
    have hr : rowOf 10 4 = none := by rfl
    simp [refA, doV, hm, hr, rowV, unhV, goneX, untV, readyA, noticeA, beatA, tickA, leavesA, oneA, toX, notX, dueX, pi, po]
  · skip
    have hr : rowOf 10 5 = none := by rfl
    simp [refA, doV, hm, hr, rowV, unhV, goneX, untV, readyA, noticeA, beatA, tickA, leavesA, oneA, toX, notX, dueX, pi, po]
  · skip
    have hr : rowOf 10 6 = none := by rfl
    simp [refA, doV, hm, hr, rowV, unhV, goneX, untV, readyA, noticeA, beatA, tickA, leavesA, oneA, toX, notX, dueX, pi, po]
  · skip
    have hr : rowOf 10 7 = (some ⟨10, 7, 6, 0, 2⟩ : Option Rw) := by rfl
    simp [refA, doV, hm, hr, rowV, unhV, goneX, untV, readyA, noticeA, beatA, tickA, leavesA, oneA, toX, notX, dueX, pi, po]
  · skip
    have hr : rowOf 10 8 = (some ⟨10, 8, 6, 0, 2⟩ : Option Rw) := by rfl
    simp [refA, doV, hm, hr, rowV, unhV, goneX, untV, readyA, noticeA, beatA, tickA, leavesA, oneA, toX, notX, dueX, pi, po]
  · skip
    have hr : rowOf 10 9 = (some ⟨10, 9, 6, 0, 2⟩ : Option Rw) := by rfl
    simp [refA, doV, hm, hr, rowV, unhV, goneX, untV, readyA, noticeA, beatA, tickA, leavesA, oneA, toX, notX, dueX, pi, po]
set_option maxHeartbeats 4000000 in
theorem ref_do11 (x : Ins) (now at_ : Int) (c : Cfg) (h : In0 now at_ c) (hm : mayDoB x 11 now at_ c = true) (s0 : 1 ≤ x.st) (s1 : x.st ≤ 9) : refA x 11 now at_ c = doV x 11 now at_ c := by
  have pi : (0 < c.hookIn) = ¬ (c.hookIn = 0) := propext ⟨fun e => by omega, fun e => by have := h.a0; omega⟩
  have po : (0 < c.hookOut) = ¬ (c.hookOut = 0) := propext ⟨fun e => by omega, fun e => by have := h.b0; omega⟩
  obtain ⟨id, tok, pool, wt, spot, st, due, ntd, kill, risk, held, ver⟩ := x
  replace s0 : 1 ≤ st := s0
  replace s1 : st ≤ 9 := s1
  rcases (by omega : st = 1 ∨ st = 2 ∨ st = 3 ∨ st = 4 ∨ st = 5 ∨ st = 6 ∨ st = 7 ∨ st = 8 ∨ st = 9) with rfl | rfl | rfl | rfl | rfl | rfl | rfl | rfl | rfl
  · skip
    have hr : rowOf 11 1 = none := by rfl
    simp [refA, doV, hm, hr, rowV, unhV, goneX, untV, readyA, noticeA, beatA, tickA, leavesA, oneA, toX, notX, dueX, pi, po]
  · skip
    have hr : rowOf 11 2 = none := by rfl
    simp [refA, doV, hm, hr, rowV, unhV, goneX, untV, readyA, noticeA, beatA, tickA, leavesA, oneA, toX, notX, dueX, pi, po]
  · skip
    have hr : rowOf 11 3 = none := by rfl
    simp [refA, doV, hm, hr, rowV, unhV, goneX, untV, readyA, noticeA, beatA, tickA, leavesA, oneA, toX, notX, dueX, pi, po]
  · skip
    have hr : rowOf 11 4 = none := by rfl
    simp [refA, doV, hm, hr, rowV, unhV, goneX, untV, readyA, noticeA, beatA, tickA, leavesA, oneA, toX, notX, dueX, pi, po]
  · skip
    have hr : rowOf 11 5 = none := by rfl
    simp [refA, doV, hm, hr, rowV, unhV, goneX, untV, readyA, noticeA, beatA, tickA, leavesA, oneA, toX, notX, dueX, pi, po]
  · skip
    have hr : rowOf 11 6 = none := by rfl
    simp [refA, doV, hm, hr, rowV, unhV, goneX, untV, readyA, noticeA, beatA, tickA, leavesA, oneA, toX, notX, dueX, pi, po]
  · skip
    have hr : rowOf 11 7 = none := by rfl
    simp [refA, doV, hm, hr, rowV, unhV, goneX, untV, readyA, noticeA, beatA, tickA, leavesA, oneA, toX, notX, dueX, pi, po]
  · skip
    have hr : rowOf 11 8 = (some ⟨11, 8, 9, 5, 4⟩ : Option Rw) := by rfl
    simp [refA, doV, hm, hr, rowV, unhV, goneX, untV, readyA, noticeA, beatA, tickA, leavesA, oneA, toX, notX, dueX, pi, po]
  · skip
    have hr : rowOf 11 9 = none := by rfl
    simp [refA, doV, hm, hr, rowV, unhV, goneX, untV, readyA, noticeA, beatA, tickA, leavesA, oneA, toX, notX, dueX, pi, po]
theorem ref_do (x : Ins) (what now at_ : Int) (c : Cfg) (h : In0 now at_ c) : refA x what now at_ c = doV x what now at_ c := by
  rcases hm : mayDoB x what now at_ c with _ | _
  · unfold refA doV
    rw [if_pos hm, if_pos hm]
  obtain ⟨ok, y0, y1, _⟩ := mayDo_yes hm
  have hs := ok_yes ok
  rcases (by omega : what = 1 ∨ what = 2 ∨ what = 3 ∨ what = 4 ∨ what = 5 ∨ what = 6 ∨ what = 7 ∨ what = 8 ∨ what = 9 ∨ what = 10 ∨ what = 11) with rfl | rfl | rfl | rfl | rfl | rfl | rfl | rfl | rfl | rfl | rfl
  · exact ref_do1 x now at_ c h hm hs.2.2.2.2.2.2.2.1 hs.2.2.2.2.2.2.2.2.1
  · exact ref_do2 x now at_ c h hm hs.2.2.2.2.2.2.2.1 hs.2.2.2.2.2.2.2.2.1
  · exact ref_do3 x now at_ c h hm hs.2.2.2.2.2.2.2.1 hs.2.2.2.2.2.2.2.2.1
  · exact ref_do4 x now at_ c h hm hs.2.2.2.2.2.2.2.1 hs.2.2.2.2.2.2.2.2.1
  · exact ref_do5 x now at_ c h hm hs.2.2.2.2.2.2.2.1 hs.2.2.2.2.2.2.2.2.1
  · exact ref_do6 x now at_ c h hm hs.2.2.2.2.2.2.2.1 hs.2.2.2.2.2.2.2.2.1
  · exact ref_do7 x now at_ c h hm hs.2.2.2.2.2.2.2.1 hs.2.2.2.2.2.2.2.2.1
  · exact ref_do8 x now at_ c h hm hs.2.2.2.2.2.2.2.1 hs.2.2.2.2.2.2.2.2.1
  · exact ref_do9 x now at_ c h hm hs.2.2.2.2.2.2.2.1 hs.2.2.2.2.2.2.2.2.1
  · exact ref_do10 x now at_ c h hm hs.2.2.2.2.2.2.2.1 hs.2.2.2.2.2.2.2.2.1
  · exact ref_do11 x now at_ c h hm hs.2.2.2.2.2.2.2.1 hs.2.2.2.2.2.2.2.2.1
end Go.Proofs.Ytmbafedpbmldmaa.Does
