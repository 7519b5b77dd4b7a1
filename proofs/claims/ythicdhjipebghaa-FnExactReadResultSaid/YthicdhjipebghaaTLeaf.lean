/- The small functions stand in VName. -/
import Derived.Test.YthicdhjipebghaaVName
