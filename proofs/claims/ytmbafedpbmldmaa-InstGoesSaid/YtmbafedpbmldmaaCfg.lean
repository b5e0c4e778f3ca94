
/- A configuration as a value: its fields by name. No code of the program. -/
import Derived.Test.YtmbafedpbmldmaaMem
namespace Go.Proofs.Ytmbafedpbmldmaa
/-- the fields of a configuration; a list by its address, length and capacity -/
structure Cfg where
  pA : Option Addr
  pN : Nat
  pC : Nat
  strategy : Int
  spread : Int
  fallback : Bool
  min : Int
  max : Int
  base : Int
  percent : Int
  surge : Int
  warm : Int
  drain : Int
  hookIn : Int
  hookOut : Int
  black : Int
  deadline : Int
  cool : Int
  replace : Bool
  target : Int
  bA : Option Addr
  bN : Nat
  bC : Nat
  lA : Option Addr
  lN : Nat
  lC : Nat
def Cfg.cells (c : Cfg) : Array Value := #[.slice c.pA c.pN c.pC, .int .u8 c.strategy, .int .i64 c.spread, .bool c.fallback, .int .i64 c.min, .int .i64 c.max, .int .i64 c.base, .int .i64 c.percent, .int .i64 c.surge, .int .i64 c.warm, .int .u64 c.drain, .int .u64 c.hookIn, .int .u64 c.hookOut, .int .u64 c.black, .int .u64 c.deadline, .int .u64 c.cool, .bool c.replace, .int .i64 c.target, .slice c.bA c.bN c.bC, .slice c.lA c.lN c.lC]
@[reducible] def Cfg.val (c : Cfg) : Value := .agg c.cells
/-- a configuration of Base and Percent alone -/
def Cfg.with_ (b p : Int) : Cfg := ⟨none, 0, 0, 0, 0, false, 0, 0, b, p, 0, 0, 0, 0, 0, 0, 0, 0, false, 0, none, 0, 0, none, 0, 0⟩
theorem Cfg.one (c : Cfg) : c.cells.all (·.oneCell') = true := by unfold Cfg.cells; simp [Value.oneCell']
theorem Cfg.f0 (c : Cfg) : c.cells[0]? = some (.slice c.pA c.pN c.pC) := rfl
theorem Cfg.f1 (c : Cfg) : c.cells[1]? = some (.int .u8 c.strategy) := rfl
theorem Cfg.f2 (c : Cfg) : c.cells[2]? = some (.int .i64 c.spread) := rfl
theorem Cfg.f3 (c : Cfg) : c.cells[3]? = some (.bool c.fallback) := rfl
theorem Cfg.f4 (c : Cfg) : c.cells[4]? = some (.int .i64 c.min) := rfl
theorem Cfg.f5 (c : Cfg) : c.cells[5]? = some (.int .i64 c.max) := rfl
theorem Cfg.f6 (c : Cfg) : c.cells[6]? = some (.int .i64 c.base) := rfl
theorem Cfg.f7 (c : Cfg) : c.cells[7]? = some (.int .i64 c.percent) := rfl
theorem Cfg.f8 (c : Cfg) : c.cells[8]? = some (.int .i64 c.surge) := rfl
theorem Cfg.f9 (c : Cfg) : c.cells[9]? = some (.int .i64 c.warm) := rfl
theorem Cfg.f10 (c : Cfg) : c.cells[10]? = some (.int .u64 c.drain) := rfl
theorem Cfg.f11 (c : Cfg) : c.cells[11]? = some (.int .u64 c.hookIn) := rfl
theorem Cfg.f12 (c : Cfg) : c.cells[12]? = some (.int .u64 c.hookOut) := rfl
theorem Cfg.f13 (c : Cfg) : c.cells[13]? = some (.int .u64 c.black) := rfl
theorem Cfg.f14 (c : Cfg) : c.cells[14]? = some (.int .u64 c.deadline) := rfl
theorem Cfg.f15 (c : Cfg) : c.cells[15]? = some (.int .u64 c.cool) := rfl
theorem Cfg.f16 (c : Cfg) : c.cells[16]? = some (.bool c.replace) := rfl
theorem Cfg.f17 (c : Cfg) : c.cells[17]? = some (.int .i64 c.target) := rfl
theorem Cfg.f18 (c : Cfg) : c.cells[18]? = some (.slice c.bA c.bN c.bC) := rfl
theorem Cfg.f19 (c : Cfg) : c.cells[19]? = some (.slice c.lA c.lN c.lC) := rfl
end Go.Proofs.Ytmbafedpbmldmaa
